import Derived.Test.YtjcffcpmegpjeaaGreatDoorRdRow4
namespace Go.Proofs.YtjcffcpmegpjeaaGreatDoor
set_option linter.unusedVariables false
set_option maxRecDepth 100000

/-- The bytes of a number, the highest first, read again. -/
theorem magV_hi (s : ByteArray) (p u : Nat) : ∀ n m, (∀ j, j < n → ∃ h : p + j < s.size, s[p + j].toNat = u / 256 ^ (m + n - 1 - j) % 256) → magV s p 0 n = u / 256 ^ m % 256 ^ n
  | 0, m, _ => by simp [magV, Nat.mod_one]
  | n + 1, m, h => by
    obtain ⟨hl, he⟩ := h n (Nat.lt_succ_self n)
    have ih := magV_hi s p u n (m + 1) (fun j hj => by
      obtain ⟨h1, h2⟩ := h j (by omega)
      exact ⟨h1, by rw [h2, show m + (n + 1) - 1 - j = m + 1 + n - 1 - j by omega]⟩)
    rw [magV_succ s p 0 n hl, ih, Nat.xor_zero, he, show m + (n + 1) - 1 - n = m by omega]
    rw [Nat.pow_succ 256 m, ← Nat.div_div_eq_div_mul]
    rw [Nat.pow_succ 256 n, Nat.mul_comm (256 ^ n) 256, Nat.mod_mul]
    omega
/-- The same with every bit turned. -/
theorem magV_lo (s : ByteArray) (p u : Nat) : ∀ n m, (∀ j, j < n → ∃ h : p + j < s.size, s[p + j].toNat = 255 - u / 256 ^ (m + n - 1 - j) % 256) → magV s p 255 n = u / 256 ^ m % 256 ^ n
  | 0, m, _ => by simp [magV, Nat.mod_one]
  | n + 1, m, h => by
    obtain ⟨hl, he⟩ := h n (Nat.lt_succ_self n)
    have ih := magV_lo s p u n (m + 1) (fun j hj => by
      obtain ⟨h1, h2⟩ := h j (by omega)
      exact ⟨h1, by rw [h2, show m + (n + 1) - 1 - j = m + 1 + n - 1 - j by omega]⟩)
    have turn : ∀ x : Fin 256, (255 - x.val) ^^^ 255 = x.val := by decide +kernel
    rw [magV_succ s p 255 n hl, ih, he, show m + (n + 1) - 1 - n = m by omega, turn ⟨u / 256 ^ m % 256, Nat.mod_lt _ (by decide)⟩]
    simp only
    rw [Nat.pow_succ 256 m, ← Nat.div_div_eq_div_mul]
    rw [Nat.pow_succ 256 n, Nat.mul_comm (256 ^ n) 256, Nat.mod_mul]
    omega
end Go.Proofs.YtjcffcpmegpjeaaGreatDoor

namespace Go.Proofs.YtjcffcpmegpjeaaGreatDoor
set_option linter.unusedVariables false
set_option maxRecDepth 100000

/-- The bytes L lie in s from p on. -/
def Lies (s : ByteArray) (p : Nat) (L : List Int) : Prop := ∀ j (hj : j < L.length), ∃ h : p + j < s.size, (s[p + j].toNat : Int) = L[j]
theorem Lies.left {s : ByteArray} {p : Nat} {L M : List Int} (h : Lies s p (L ++ M)) : Lies s p L := by
  intro j hj
  obtain ⟨h1, h2⟩ := h j (by rw [List.length_append]; omega)
  exact ⟨h1, by rw [h2, List.getElem_append_left hj]⟩
theorem Lies.right {s : ByteArray} {p : Nat} {L M : List Int} (h : Lies s p (L ++ M)) : Lies s (p + L.length) M := by
  intro j hj
  obtain ⟨h1, h2⟩ := h (L.length + j) (by rw [List.length_append]; omega)
  refine ⟨by omega, ?_⟩
  have e : (L ++ M)[L.length + j]'(by rw [List.length_append]; omega) = M[j] := by
    rw [List.getElem_append_right (by omega)]; simp
  rw [e] at h2
  rw [← h2]
  congr 3
  omega
theorem Lies.head {s : ByteArray} {p : Nat} {x : Int} {L : List Int} (h : Lies s p (x :: L)) : ∃ h : p < s.size, (s[p].toNat : Int) = x := by
  obtain ⟨h1, h2⟩ := h 0 (by simp)
  exact ⟨by omega, h2⟩
theorem Lies.tail {s : ByteArray} {p : Nat} {x : Int} {L : List Int} (h : Lies s p (x :: L)) : Lies s (p + 1) L := by
  have := Lies.right (L := [x]) (M := L) h
  simpa using this
theorem etE_of {s : ByteArray} {p : Nat} {x : Int} {L : List Int} (h : Lies s p (x :: L)) (hx : x = 1 ∨ x = 255) : etE s p = 0 ∧ etV s p = decide (x = 1) := by
  obtain ⟨h1, h2⟩ := h.head
  unfold etE etV
  rw [dif_pos h1, dif_pos h1]
  refine ⟨if_pos (by omega), ?_⟩
  rcases hx with e | e
  · have : s[p].toNat = 1 := by omega
    rw [this, e]; rfl
  · have : s[p].toNat = 255 := by omega
    rw [this, e]; rfl
theorem rtF_esc (s : ByteArray) (p : Nat) : ∀ (l : List UInt8) (f n : Nat) (acc : List Int), Lies s (p + n) (escL l ++ [0, 1]) → acc.length + l.length ≤ 4096 → l.length < f → rtF s p f n acc = (acc ++ l.map (fun x => (x.toNat : Int)), n + (escL l).length + 2, 0)
  | [], f, n, acc, h, hl, hf => by
    obtain ⟨f, rfl⟩ : ∃ f', f = f' + 1 := ⟨f - 1, by simp at hf; omega⟩
    have h : Lies s (p + n) [0, 1] := h
    obtain ⟨h1, h2⟩ := h.head
    have h3 := etE_of h.tail (.inl rfl)
    rw [rtF_end s p f n acc h1 (by omega) h3.1 h3.2]
    simp [escL]
  | x :: r, f, n, acc, h, hl, hf => by
    obtain ⟨f, rfl⟩ : ∃ f', f = f' + 1 := ⟨f - 1, by simp at hf; omega⟩
    simp only [List.length_cons] at hl hf
    by_cases hx : x = 0
    · have e : escL (x :: r) = 0 :: 255 :: escL r := by simp [escL, hx]
      rw [e] at h ⊢
      have h : Lies s (p + n) (0 :: 255 :: (escL r ++ [0, 1])) := h
      obtain ⟨h1, h2⟩ := h.head
      have h3 := etE_of h.tail (.inr rfl)
      rw [rtF_zero s p f n acc h1 (by omega) h3.1 h3.2, if_neg (by omega)]
      rw [rtF_esc s p r f (n + 2) (acc ++ [0]) (by have := h.tail.tail; rw [show p + n + 1 + 1 = p + (n + 2) by omega] at this; exact this) (by simp; omega) (by omega)]
      rw [hx]
      simp only [List.map_cons, List.length_cons, List.append_assoc, List.singleton_append]
      refine Prod.ext rfl (Prod.ext ?_ rfl)
      simp only
      omega
    · have e : escL (x :: r) = (x.toNat : Int) :: escL r := by simp [escL, hx]
      rw [e] at h ⊢
      have h : Lies s (p + n) ((x.toNat : Int) :: (escL r ++ [0, 1])) := h
      obtain ⟨h1, h2⟩ := h.head
      have hx0 : x.toNat ≠ 0 := fun h => hx (UInt8.toNat_inj.1 (by rw [h]; rfl))
      rw [rtF_byte s p f n acc h1 (by omega), if_neg (by omega), h2]
      rw [rtF_esc s p r f (n + 1) (acc ++ [(x.toNat : Int)]) (by have := h.tail; rw [show p + n + 1 = p + (n + 1) by omega] at this; exact this) (by simp; omega) (by omega)]
      simp only [List.map_cons, List.length_cons, List.append_assoc, List.singleton_append]
      refine Prod.ext rfl (Prod.ext ?_ rfl)
      simp only
      omega
end Go.Proofs.YtjcffcpmegpjeaaGreatDoor

namespace Go.Proofs.YtjcffcpmegpjeaaGreatDoor
set_option linter.unusedVariables false
set_option maxRecDepth 100000

theorem hiB_get : ∀ (n : Nat) (v : Int) (j : Nat) (h : j < (hiB n v).length), (hiB n v)[j] = v / 2 ^ (8 * (n - 1 - j)) % 256
  | 0, v, j, h => by simp [hiB] at h
  | n + 1, v, 0, h => by simp [hiB]
  | n + 1, v, j + 1, h => by
    have := hiB_get n v j (by simp [hiB] at h; exact h)
    simp only [hiB, List.getElem_cons_succ]
    rw [this, show n + 1 - 1 - (j + 1) = n - 1 - j by omega]
theorem szF_fit : ∀ (f u : Nat), u < 256 ^ f → u < 256 ^ szF f u
  | 0, u, h => by simpa [szF] using h
  | f + 1, u, h => by
    unfold szF
    split
    · rename_i e; rw [e]; exact Nat.pow_pos (by decide)
    · have ih := szF_fit f (u / 256) (by rw [Nat.pow_succ] at h; exact (Nat.div_lt_iff_lt_mul (by decide)).2 h)
      rw [Nat.pow_succ]
      exact (Nat.div_lt_iff_lt_mul (by decide)).1 ih
theorem szB_fit (u : Nat) (h : u < 18446744073709551616) : u < 256 ^ szB u := szF_fit 8 u (by rw [show (256 : Nat) ^ 8 = 18446744073709551616 by decide]; exact h)
theorem pow28 (e : Nat) : (2 : Int) ^ (8 * e) = ((256 ^ e : Nat) : Int) := by rw [Int.pow_mul]; simp
theorem turn_byte (u e : Nat) (hu : u < 18446744073709551616) (he : e < 8) : (18446744073709551615 - u) / 256 ^ e % 256 = 255 - u / 256 ^ e % 256 := by
  match e, he with
  | 0, _ => simp only [Nat.pow_zero, Nat.div_one]; omega
  | 1, _ => simp only [show (256 : Nat) ^ 1 = 256 by decide]; omega
  | 2, _ => simp only [show (256 : Nat) ^ 2 = 65536 by decide]; omega
  | 3, _ => simp only [show (256 : Nat) ^ 3 = 16777216 by decide]; omega
  | 4, _ => simp only [show (256 : Nat) ^ 4 = 4294967296 by decide]; omega
  | 5, _ => simp only [show (256 : Nat) ^ 5 = 1099511627776 by decide]; omega
  | 6, _ => simp only [show (256 : Nat) ^ 6 = 281474976710656 by decide]; omega
  | 7, _ => simp only [show (256 : Nat) ^ 7 = 72057594037927936 by decide]; omega
theorem mag_pos (s : ByteArray) (p u : Nat) (hp : p ≤ s.size) (hu : u < 9223372036854775808) (h : Lies s p (hiB (szB u) (u : Int))) : magV s p 0 (szB u) = u ∧ magE s p 0 (szB u) = 0 := by
  have hv : magV s p 0 (szB u) = u := by
    rw [magV_hi s p u (szB u) 0 (fun j hj => ?_)]
    · rw [Nat.pow_zero, Nat.div_one]; exact Nat.mod_eq_of_lt (szB_fit u (by omega))
    · obtain ⟨h1, h2⟩ := h j (by rw [hiB_len]; exact hj)
      refine ⟨h1, ?_⟩
      rw [hiB_get, pow28] at h2
      rw [Nat.zero_add]
      have : ((s[p + j].toNat : Nat) : Int) = ((u / 256 ^ (szB u - 1 - j) % 256 : Nat) : Int) := by rw [h2]; simp
      exact Int.ofNat.inj this
  refine ⟨hv, ?_⟩
  have hin : ¬ s.size < p + szB u := by
    intro hx
    obtain ⟨h1, _⟩ := h (szB u - 1) (by rw [hiB_len]; omega)
    omega
  unfold magE
  rw [if_neg hin, hv, if_neg (by omega), if_neg (by omega)]
theorem mag_neg (s : ByteArray) (p u : Nat) (hp : p ≤ s.size) (hu : u < 9223372036854775808) (h : Lies s p (hiB (szB u) (18446744073709551615 - (u : Int)))) : magV s p 255 (szB u) = u ∧ magE s p 255 (szB u) = 0 := by
  have hz := szB_le u
  have hv : magV s p 255 (szB u) = u := by
    rw [magV_lo s p u (szB u) 0 (fun j hj => ?_)]
    · rw [Nat.pow_zero, Nat.div_one]; exact Nat.mod_eq_of_lt (szB_fit u (by omega))
    · obtain ⟨h1, h2⟩ := h j (by rw [hiB_len]; exact hj)
      refine ⟨h1, ?_⟩
      rw [hiB_get, pow28] at h2
      rw [Nat.zero_add, ← turn_byte u _ (by omega) (by omega)]
      have : ((s[p + j].toNat : Nat) : Int) = (((18446744073709551615 - u) / 256 ^ (szB u - 1 - j) % 256 : Nat) : Int) := by
        rw [h2, show (18446744073709551615 : Int) - (u : Int) = ((18446744073709551615 - u : Nat) : Int) by omega]; simp
      exact Int.ofNat.inj this
  refine ⟨hv, ?_⟩
  have hin : ¬ s.size < p + szB u := by
    intro hx
    obtain ⟨h1, _⟩ := h (szB u - 1) (by rw [hiB_len]; omega)
    omega
  unfold magE
  rw [if_neg hin, hv, if_neg (by omega), if_neg (by omega)]
end Go.Proofs.YtjcffcpmegpjeaaGreatDoor

namespace Go.Proofs.YtjcffcpmegpjeaaGreatDoor
set_option linter.unusedVariables false
set_option maxRecDepth 100000

/-- A value that may stand in a key. -/
def canV (v : Int × Int × ByteArray) : Prop := v = (0, 0, ⟨#[]⟩) ∨ (∃ i, v = (1, i, ⟨#[]⟩) ∧ 0 ≤ i ∧ i ≤ 1) ∨ (∃ i, v = (2, i, ⟨#[]⟩) ∧ -9223372036854775808 ≤ i ∧ i ≤ 9223372036854775807) ∨ (∃ t, v = (3, 0, t) ∧ t.size ≤ 4096)
theorem strOf_bytes (t : ByteArray) : strOfNums (t.data.toList.map fun x => (x.toNat : Int)) = t := by
  obtain ⟨⟨l⟩⟩ := t
  unfold strOfNums
  congr 1
  simp only [List.map_map]
  have : ((fun n : Int => UInt8.ofNat n.toNat) ∘ fun x : UInt8 => (x.toNat : Int)) = id := by
    funext x; simp
  rw [this, List.map_id]
theorem Lies.in {s : ByteArray} {p : Nat} {L : List Int} (h : Lies s p L) (hp : p ≤ s.size) : p + L.length ≤ s.size := by
  rcases Nat.eq_zero_or_pos L.length with e | e
  · omega
  · obtain ⟨h1, _⟩ := h (L.length - 1) (by omega)
    omega
theorem escL_ge : ∀ l, l.length ≤ (escL l).length
  | [] => by simp [escL]
  | x :: r => by
    have := escL_ge r
    by_cases h : x = 0
    · simp [escL, h]; omega
    · simp [escL, h]; omega
theorem keyV_pos (v : Int × Int × ByteArray) : (keyV v).length ≠ 0 := by
  unfold keyV
  split
  · simp
  · split
    · simp
    · split
      · unfold keyI; split <;> simp
      · simp
theorem rkV_key (s : ByteArray) (p : Nat) (v : Int × Int × ByteArray) (hc : canV v) (h : Lies s p (keyV v)) : ∃ h : p < s.size, rkV s (p + 1) (s[p].toNat : Int) = (v, (keyV v).length - 1, 0) := by
  rcases hc with rfl | ⟨i, rfl, h0, h1⟩ | ⟨i, rfl, h0, h1⟩ | ⟨t, rfl, h0⟩
  · have h : Lies s p [16] := h
    obtain ⟨g1, g2⟩ := h.head
    refine ⟨g1, ?_⟩
    rw [g2]
    rfl
  · have h : Lies s p [32 + i] := h
    obtain ⟨g1, g2⟩ := h.head
    refine ⟨g1, ?_⟩
    rw [g2]
    unfold rkV
    rw [if_neg (by omega), if_pos (by omega), show 32 + i - 32 = i by omega]
    rfl
  · have e : keyV (2, i, ⟨#[]⟩) = keyI i := rfl
    rw [e] at h ⊢
    by_cases hi : 0 ≤ i
    · obtain ⟨u, rfl⟩ : ∃ u : Nat, i = (u : Int) := ⟨i.toNat, by omega⟩
      have e2 : keyI (u : Int) = (56 + (szB u : Int)) :: hiB (szB u) (u : Int) := by
        unfold keyI
        rw [if_pos hi, Int.toNat_natCast, show IntKind.u64.wrap (u : Int) = (u : Int) by rw [IntKind.wrap_u64]; omega]
      rw [e2] at h ⊢
      obtain ⟨g1, g2⟩ := h.head
      have hz := szB_le u
      obtain ⟨m1, m2⟩ := mag_pos s (p + 1) u (by omega) (by omega) h.tail
      refine ⟨g1, ?_⟩
      rw [g2]
      have n1 : tagN (56 + (szB u : Int)) = szB u := by unfold tagN; rw [if_pos (by omega)]; omega
      unfold rkV
      rw [if_neg (by omega), if_neg (by omega), if_pos (by omega)]
      unfold tagV tagT
      rw [if_pos (by omega), if_pos (by omega), n1, m1, m2]
      simp [hiB_len]
    · obtain ⟨u, hu⟩ : ∃ u : Nat, (u : Int) = -1 - i := ⟨(-1 - i).toNat, by omega⟩
      have e2 : keyI i = (55 - (szB u : Int)) :: hiB (szB u) (18446744073709551615 - (u : Int)) := by
        unfold keyI
        rw [if_neg hi, show (-1 - i).toNat = u by omega, show IntKind.u64.wrap i = 18446744073709551615 - (u : Int) by rw [IntKind.wrap_u64]; omega]
      rw [e2] at h ⊢
      obtain ⟨g1, g2⟩ := h.head
      have hz := szB_le u
      obtain ⟨m1, m2⟩ := mag_neg s (p + 1) u (by omega) (by omega) h.tail
      refine ⟨g1, ?_⟩
      rw [g2]
      have n1 : tagN (55 - (szB u : Int)) = szB u := by unfold tagN; rw [if_neg (by omega)]; omega
      unfold rkV
      rw [if_neg (by omega), if_neg (by omega), if_pos (by omega)]
      unfold tagV tagT
      rw [if_neg (by omega), if_neg (by omega), n1, m1, m2, show -1 - (u : Int) = i by omega]
      simp [hiB_len]
  · have e : keyV (3, 0, t) = 80 :: (escL t.data.toList ++ [0, 1]) := rfl
    rw [e] at h ⊢
    obtain ⟨g1, g2⟩ := h.head
    refine ⟨g1, ?_⟩
    rw [g2]
    have ht : t.data.toList.length = t.size := by rw [Array.length_toList]; rfl
    have hin := h.tail.in (by omega)
    rw [List.length_append] at hin
    have hle : t.data.toList.length ≤ (escL t.data.toList).length := escL_ge _
    have hr : rtV s (p + 1) = (t.data.toList.map (fun x => (x.toNat : Int)), (escL t.data.toList).length + 2, 0) := by
      unfold rtV
      rw [rtF_esc s (p + 1) t.data.toList (s.size + 1) 0 [] h.tail (by simp only [List.length_nil]; omega) (by omega)]
      simp
    unfold rkV
    rw [if_neg (by omega), if_neg (by omega), if_neg (by omega), if_pos rfl, hr]
    simp only
    rw [strOf_bytes]
    simp
/-- A key, read: its values. -/
theorem rkF_key (s : ByteArray) (p : Nat) : ∀ (vs : List (Int × Int × ByteArray)) (f n : Nat) (acc : List (Int × Int × ByteArray)), (∀ v ∈ vs, canV v) → Lies s (p + n) (keyL vs) → p + n + (keyL vs).length = s.size → acc.length + vs.length ≤ 16 → vs.length < f → rkF s p f n acc = (acc ++ vs, n + (keyL vs).length, 0)
  | [], f, n, acc, hc, h, he, hl, hf => by
    obtain ⟨f, rfl⟩ : ∃ f', f = f' + 1 := ⟨f - 1, by simp at hf; omega⟩
    have e : (keyL ([] : List (Int × Int × ByteArray))).length = 0 := rfl
    rw [rkF_end s p f n acc (by omega), e]
    simp
  | v :: r, f, n, acc, hc, h, he, hl, hf => by
    obtain ⟨f, rfl⟩ : ∃ f', f = f' + 1 := ⟨f - 1, by simp at hf; omega⟩
    simp only [List.length_cons] at hl hf
    have e : keyL (v :: r) = keyV v ++ keyL r := by unfold keyL; rw [List.flatMap_cons]
    rw [e] at h he ⊢
    rw [List.length_append] at he
    obtain ⟨g1, g2⟩ := rkV_key s (p + n) v (hc v (by simp)) h.left
    have hk : 1 ≤ (keyV v).length := by
      rcases Nat.eq_zero_or_pos (keyV v).length with z | z
      · exact absurd z (keyV_pos v)
      · exact z
    rw [rkF_step s p f n acc g1 (by omega), g2, if_pos rfl]
    simp only
    rw [show n + 1 + ((keyV v).length - 1) = n + (keyV v).length by omega]
    rw [rkF_key s p r f (n + (keyV v).length) (acc ++ [v]) (fun x hx => hc x (by simp [hx])) (by have := h.right; rw [show p + n + (keyV v).length = p + (n + (keyV v).length) by omega] at this; exact this) (by omega) (by simp; omega) (by omega)]
    simp only [List.append_assoc, List.singleton_append, List.length_append]
    refine Prod.ext rfl (Prod.ext ?_ rfl)
    simp only
    omega
end Go.Proofs.YtjcffcpmegpjeaaGreatDoor
