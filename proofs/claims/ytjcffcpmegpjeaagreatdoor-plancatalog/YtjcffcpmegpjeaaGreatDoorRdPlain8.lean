import Derived.Test.YtjcffcpmegpjeaaGreatDoorRdPlain6
namespace Go.Proofs.YtjcffcpmegpjeaaGreatDoor
set_option linter.unusedVariables false
set_option maxRecDepth 100000

/-! What is read has one form. -/
theorem Lies.cons {s : ByteArray} {p : Nat} {x : Int} {L : List Int} (hp : p < s.size) (hx : (s[p].toNat : Int) = x) (h : Lies s (p + 1) L) : Lies s p (x :: L) := by
  intro j hj
  cases j with
  | zero => exact ⟨hp, by simpa using hx⟩
  | succ j =>
    obtain ⟨h1, h2⟩ := h j (by simpa using hj)
    refine ⟨by omega, ?_⟩
    rw [List.getElem_cons_succ, ← h2]
    congr 3
    omega
theorem Lies.nil (s : ByteArray) (p : Nat) : Lies s p [] := fun j hj => absurd hj (by simp)
theorem Lies.append {s : ByteArray} {p : Nat} : ∀ {L M : List Int}, Lies s p L → Lies s (p + L.length) M → Lies s p (L ++ M)
  | [], M, h, g => by simpa using g
  | x :: L, M, h, g => by
    obtain ⟨h1, h2⟩ := h.head
    exact Lies.cons h1 h2 (Lies.append h.tail (by rw [List.length_cons] at g; rw [show p + 1 + L.length = p + (L.length + 1) by omega]; exact g))
theorem lies_whole (s : ByteArray) (L : List Int) (h : Lies s 0 L) (hl : L.length = s.size) : s = strOfNums L := by
  have hz := strOfNums_size L
  apply ByteArray.ext
  apply Array.ext
  · show s.size = (strOfNums L).size
    omega
  · intro i h1 h2
    have hi : i < s.size := h1
    obtain ⟨g1, g2⟩ := h i (by omega)
    have e : (strOfNums L).data[i] = UInt8.ofNat (L[i]'(by omega)).toNat := by simp [strOfNums]
    rw [e, ← g2]
    have e2 : s[0 + i] = s.data[i] := by simp only [Nat.zero_add]; rfl
    rw [e2]
    simp
theorem ru_form (s : ByteArray) (p : Nat) (f : Nat) : ∀ (n acc u m : Nat), f + n = 9 → ruF s p (f + 1) n acc = (u, m, 0) → ∃ v : Nat, u = acc + v * 128 ^ n ∧ (0 < v ∨ n = 0) ∧ Lies s (p + n) (uvF f v) ∧ m = n + (uvF f v).length := by
  induction f with
  | zero =>
    intro n acc u m hf h
    have hn : n = 9 := by omega
    subst hn
    by_cases hl : p + 9 < s.size
    · by_cases h1 : 1 < s[p + 9].toNat
      · rw [ruF_far s p 0 9 acc hl rfl h1] at h; simp at h
      · by_cases h0 : s[p + 9].toNat = 0
        · rw [ruF_canon s p 0 9 acc hl (by omega) h0] at h; simp at h
        · rw [ruF_done s p 0 9 acc hl (by omega) (by omega) (.inl h0)] at h
          simp only [Prod.mk.injEq, and_true] at h
          refine ⟨s[p + 9].toNat, h.1.symm, .inl (by omega), Lies.cons hl rfl (Lies.nil _ _), ?_⟩
          simp only [uvF, List.length_singleton]; exact h.2.symm
    · rw [ruF_short s p 0 9 acc hl] at h; simp at h
  | succ f ih =>
    intro n acc u m hf h
    by_cases hl : p + n < s.size
    · by_cases hb : 128 ≤ s[p + n].toNat
      · rw [ruF_more s p (f + 1) n acc hl (by omega) hb] at h
        obtain ⟨v, h1, h2, h3, h4⟩ := ih (n + 1) _ u m (by omega) h
        have hlt := s[p + n].toNat_lt
        have h2' : 0 < v := by omega
        have e : uvF (f + 1) ((v * 128 + s[p + n].toNat % 128 : Nat) : Int) = ((s[p + n].toNat : Nat) : Int) :: uvF f (v : Int) := by
          rw [uvF_great f _ (by omega)]
          congr 1
          · omega
          · congr 1; omega
        refine ⟨v * 128 + s[p + n].toNat % 128, ?_, .inl (by omega), ?_, ?_⟩
        · rw [h1, Nat.add_mul, Nat.pow_succ, Nat.mul_assoc v 128, Nat.mul_comm 128 (128 ^ n)]; omega
        · rw [e]
          exact Lies.cons hl rfl (by rw [show p + n + 1 = p + (n + 1) by omega]; exact h3)
        · rw [e, h4, List.length_cons]; omega
      · by_cases h0 : s[p + n].toNat = 0 ∧ 0 < n
        · rw [ruF_canon s p (f + 1) n acc hl h0.2 h0.1] at h; simp at h
        · rw [ruF_done s p (f + 1) n acc hl (by omega) (by omega) (by omega)] at h
          simp only [Prod.mk.injEq, and_true] at h
          have e : uvF (f + 1) ((s[p + n].toNat : Nat) : Int) = [((s[p + n].toNat : Nat) : Int)] := uvF_small _ _ (by omega)
          refine ⟨s[p + n].toNat, h.1.symm, by omega, by rw [e]; exact Lies.cons hl rfl (Lies.nil _ _), ?_⟩
          rw [e, List.length_singleton]; exact h.2.symm
    · rw [ruF_short s p (f + 1) n acc hl] at h; simp at h
theorem ru_form0 (s : ByteArray) (p u m : Nat) (h : ruV s p = (u, m, 0)) : Lies s p (uvB u) ∧ m = (uvB u).length := by
  obtain ⟨v, h1, h2, h3, h4⟩ := ru_form s p 9 0 0 u m rfl h
  simp only [Nat.pow_zero, Nat.mul_one, Nat.zero_add] at h1
  subst h1
  exact ⟨h3, by rw [h4, Nat.zero_add]; rfl⟩
theorem svV_sdec (u : Nat) : svV (sdec u) = u := by
  unfold sdec
  split
  · unfold svV; rw [if_pos (by omega)]; omega
  · unfold svV; rw [if_neg (by omega)]; omega
theorem sdec_bnd (u : Nat) (h : u < 18446744073709551616) : -9223372036854775808 ≤ sdec u ∧ sdec u ≤ 9223372036854775807 := by
  unfold sdec; split <;> omega
theorem lies_txt (s : ByteArray) (p n : Nat) (h : p + n ≤ s.size) : Lies s p (txt (s.extract p (p + n))) ∧ (s.extract p (p + n)).size = n := by
  have hz : (s.extract p (p + n)).size = n := by rw [ByteArray.size_extract]; omega
  refine ⟨?_, hz⟩
  intro j hj
  have hl : (txt (s.extract p (p + n))).length = n := by unfold txt; simp only [List.length_map, Array.length_toList]; exact hz
  refine ⟨by omega, ?_⟩
  have e : (txt (s.extract p (p + n)))[j] = ((s.extract p (p + n)).data[j]'(by show j < (s.extract p (p + n)).size; omega)).toNat := by unfold txt; simp
  rw [e]
  have e2 : (s.extract p (p + n)).data[j]'(by show j < (s.extract p (p + n)).size; omega) = s[p + j] := by
    simp only [ByteArray.data_extract, Array.getElem_extract]; rfl
  rw [e2]
theorem rrV_form (s : ByteArray) (p k m : Nat) (hk : k < 4) (v : Int × Int × ByteArray) (h : rrV s p k = (v, m, 0)) : canV v ∧ v.1 = (k : Int) ∧ Lies s p (rowV v) ∧ m = (rowV v).length := by
  have hb := ruV_bound s p
  have hk4 : k = 0 ∨ k = 1 ∨ k = 2 ∨ k = 3 := by omega
  rcases hk4 with rfl | rfl | rfl | rfl
  · unfold rrV at h
    rw [if_pos rfl] at h
    simp only [Prod.mk.injEq, and_true] at h
    obtain ⟨rfl, rfl⟩ := h
    exact ⟨.inl rfl, rfl, Lies.nil _ _, rfl⟩
  · unfold rrV at h
    rw [if_neg (by decide), if_pos rfl] at h
    simp only [Prod.mk.injEq] at h
    obtain ⟨rfl, rfl, h3⟩ := h
    unfold rbE at h3
    split at h3
    · rename_i hl
      split at h3
      · omega
      · have e : rbW s p = (s[p].toNat : Int) := by unfold rbW; rw [dif_pos hl]
        rw [e]
        exact ⟨.inr (.inl ⟨_, rfl, by omega, by omega⟩), rfl, Lies.cons hl rfl (Lies.nil _ _), rfl⟩
    · omega
  · unfold rrV at h
    rw [if_neg (by decide), if_neg (by decide), if_pos rfl] at h
    simp only [Prod.mk.injEq] at h
    obtain ⟨rfl, rfl, h3⟩ := h
    obtain ⟨f1, f2⟩ := ru_form0 s p (ruV s p).1 (ruV s p).2.1 (by rw [← h3])
    have sb := sdec_bnd _ hb.1
    have e : rowV (2, sdec (ruV s p).1, ⟨#[]⟩) = uvB ((ruV s p).1 : Int) := by
      show uvB (svV (sdec (ruV s p).1)) = _
      rw [svV_sdec]
    rw [e]
    exact ⟨.inr (.inr (.inl ⟨_, rfl, sb.1, sb.2⟩)), rfl, f1, f2⟩
  · unfold rrV at h
    rw [if_neg (by decide), if_neg (by decide), if_neg (by decide)] at h
    simp only [Prod.mk.injEq] at h
    obtain ⟨rfl, rfl, h3⟩ := h
    by_cases c0 : (ruV s p).2.2 = 0
    · obtain ⟨f1, f2⟩ := ru_form0 s p (ruV s p).1 (ruV s p).2.1 (by rw [← c0])
      by_cases c1 : 4096 < (ruV s p).1
      · unfold rbV at h3; rw [if_pos c0, if_pos c1] at h3; simp at h3
      · by_cases c2 : p + (ruV s p).2.1 + (ruV s p).1 ≤ s.size
        · have e : rbV s p 4096 = (s.extract (p + (ruV s p).2.1) (p + (ruV s p).2.1 + (ruV s p).1), (ruV s p).2.1 + (ruV s p).1, 0) := by
            unfold rbV; rw [if_pos c0, if_neg c1, if_pos c2]
          obtain ⟨t1, t2⟩ := lies_txt s (p + (ruV s p).2.1) (ruV s p).1 c2
          rw [e]
          simp only
          generalize s.extract (p + (ruV s p).2.1) (p + (ruV s p).2.1 + (ruV s p).1) = t at *
          have er : rowV (3, 0, t) = uvB ((ruV s p).1 : Int) ++ txt t := by rw [← t2]; rfl
          rw [er]
          refine ⟨.inr (.inr (.inr ⟨_, rfl, by omega⟩)), rfl, Lies.append f1 (by rw [← f2]; exact t1), ?_⟩
          rw [List.length_append, ← f2]
          have : (txt t).length = t.size := by unfold txt; simp
          omega
        · unfold rbV at h3; rw [if_pos c0, if_neg c1, if_neg c2] at h3; simp at h3
    · unfold rbV at h3; rw [if_neg c0] at h3; exact absurd h3 c0
theorem rrF_form (s : ByteArray) (p : Nat) : ∀ (f n : Nat) (acc vs : List (Int × Int × ByteArray)) (m : Nat), rrF s p f n acc = (vs, m, 0) → ∃ us, vs = acc ++ us ∧ us.length = f ∧ (∀ v ∈ us, canV v) ∧ (∀ i (hi : i < us.length), (us[i]).1 = (knd s (p + 1) (acc.length + i) : Int)) ∧ Lies s (p + n) (rowL us) ∧ s.size ≤ p + n + (rowL us).length
  | 0, n, acc, vs, m, h => by
    by_cases c : p + n < s.size
    · rw [rrF_tail s p n acc c] at h; simp at h
    · rw [rrF_end s p n acc c] at h
      simp only [Prod.mk.injEq, and_true] at h
      exact ⟨[], by simp [h.1], rfl, by simp, fun i hi => absurd hi (by simp), Lies.nil _ _, by show s.size ≤ p + n + 0; omega⟩
  | f + 1, n, acc, vs, m, h => by
    by_cases c : (rrV s (p + n) (knd s (p + 1) acc.length)).2.2 = 0
    · rw [rrF_ok s p f n acc c] at h
      obtain ⟨us, h1, h2, h3, h4, h5, h6⟩ := rrF_form s p f _ _ vs m h
      obtain ⟨g1, g2, g3, g4⟩ := rrV_form s (p + n) (knd s (p + 1) acc.length) _ (knd_lt _ _ _) _ (show rrV s (p + n) (knd s (p + 1) acc.length) = ((rrV s (p + n) (knd s (p + 1) acc.length)).1, (rrV s (p + n) (knd s (p + 1) acc.length)).2.1, 0) by rw [← c])
      generalize (rrV s (p + n) (knd s (p + 1) acc.length)).1 = v at *
      generalize (rrV s (p + n) (knd s (p + 1) acc.length)).2.1 = k at *
      have e : rowL (v :: us) = rowV v ++ rowL us := by unfold rowL; rw [List.flatMap_cons]
      refine ⟨v :: us, by rw [h1]; simp, by simp [h2], ?_, ?_, ?_, ?_⟩
      · intro x hx
        rcases List.mem_cons.1 hx with rfl | hx
        · exact g1
        · exact h3 x hx
      · intro i hi
        cases i with
        | zero => simpa using g2
        | succ i =>
          have := h4 i (by simpa using hi)
          simp only [List.getElem_cons_succ]
          rw [this, List.length_append, List.length_singleton, show acc.length + 1 + i = acc.length + (i + 1) by omega]
      · rw [e]
        exact Lies.append g3 (by rw [← g4, show p + n + k = p + (n + k) by omega]; exact h5)
      · rw [e, List.length_append]
        omega
    · rw [rrF_no s p f n acc c] at h
      simp only [Prod.mk.injEq] at h
      exact absurd h.2.2 c
theorem byte4 (b : Nat) (h : b < 256) : b = b / 4 ^ 0 % 4 + 4 * (b / 4 ^ 1 % 4) + 16 * (b / 4 ^ 2 % 4) + 64 * (b / 4 ^ 3 % 4) := by
  simp only [Nat.pow_zero, Nat.div_one, Nat.pow_one, show (4 : Nat) ^ 2 = 16 by decide, show (4 : Nat) ^ 3 = 64 by decide]
  omega
theorem kdZ_get {s : ByteArray} {p b n : Nat} (h : kdZ s p b n = true) (i : Nat) (h1 : b ≤ i) (h2 : i < n) : knd s p i = 0 := by
  unfold kdZ at h
  rw [List.all_eq_true] at h
  have := h i (List.mem_range.2 h2)
  simp at this
  omega
/-- A row that is read is the row of what was read. -/
theorem rrL_form (s : ByteArray) (vs : List (Int × Int × ByteArray)) (m : Nat) (h : rrL s 0 = (vs, m, 0)) : s = strOfNums (rowAll vs) ∧ vs.length ≤ 16 ∧ ∀ v ∈ vs, canV v := by
  unfold rrL at h
  by_cases hE : kdE s 0 = 0
  · rw [if_pos hE] at h
    obtain ⟨us, h1, h2, h3, h4, h5, h6⟩ := rrF_form s 0 _ _ [] vs m h
    rw [List.nil_append] at h1
    subst h1
    have hin := kdE_in hE
    have hl : 0 < s.size := by omega
    have hN16 : kdN s 0 ≤ 16 := by
      unfold kdE at hE; rw [if_pos hl] at hE
      split at hE
      · omega
      · omega
    have hZ : kdZ s (0 + 1) (kdN s 0) (4 * ((kdN s 0 + 3) / 4)) = true := by
      unfold kdE at hE; rw [if_pos hl, if_neg (by omega), if_neg (by omega)] at hE
      split at hE
      · assumption
      · omega
    have hN : (s[0].toNat : Int) = (vs.length : Int) := by
      have : kdN s 0 = s[0].toNat := by unfold kdN; rw [dif_pos hl]
      omega
    have hkind : ∀ i, i < 4 * ((kdN s 0 + 3) / 4) → kind4 vs i = (knd s 1 i : Int) := by
      intro i hi
      unfold kind4
      by_cases c : i < vs.length
      · rw [List.getElem?_eq_getElem c]
        have := h4 i c
        simpa using this
      · rw [List.getElem?_eq_none (by omega)]
        have := kdZ_get hZ i (by omega) hi
        simp [this]
    have hkb : Lies s 1 (kbytes vs vs.length ((vs.length + 3) / 4)) := by
      intro j hj
      rw [kbytes_len] at hj
      have hjl : 1 + j < s.size := by omega
      refine ⟨hjl, ?_⟩
      have e : (kbytes vs vs.length ((vs.length + 3) / 4))[j]'(by rw [kbytes_len]; exact hj) = kbyte vs vs.length j := by simp [kbytes]
      rw [e]
      unfold kbyte
      rw [List.take_length, hkind (4 * j) (by omega), hkind (4 * j + 1) (by omega), hkind (4 * j + 2) (by omega), hkind (4 * j + 3) (by omega)]
      have kd : ∀ m, m < 4 → knd s 1 (4 * j + m) = s[1 + j].toNat / 4 ^ m % 4 := by
        intro m hm
        have q : (4 * j + m) / 4 = j := by omega
        have r : (4 * j + m) % 4 = m := by omega
        unfold knd
        simp only [q, r]
        rw [dif_pos hjl]
      have k0 := kd 0 (by omega)
      rw [Nat.add_zero] at k0
      rw [k0, kd 1 (by omega), kd 2 (by omega), kd 3 (by omega)]
      have := byte4 s[1 + j].toNat s[1 + j].toNat_lt
      omega
    have hall : Lies s 0 (rowAll vs) := by
      unfold rowAll
      refine Lies.append (Lies.cons hl hN (by simpa using hkb)) ?_
      rw [List.length_cons, kbytes_len, ← h2] at *
      rw [show 0 + ((vs.length + 3) / 4 + 1) = 0 + (1 + (vs.length + 3) / 4) by omega]
      exact h5
    have hlen : (rowAll vs).length = 1 + (vs.length + 3) / 4 + (rowL vs).length := by
      unfold rowAll; simp only [List.cons_append, List.length_cons, List.length_append, kbytes_len]; omega
    have hle := hall.in (by omega)
    refine ⟨lies_whole s _ hall (by omega), by omega, h3⟩
  · rw [if_neg hE] at h
    simp only [Prod.mk.injEq] at h
    exact absurd h.2.2 hE
end Go.Proofs.YtjcffcpmegpjeaaGreatDoor

namespace Go.Proofs.YtjcffcpmegpjeaaGreatDoor
set_option linter.unusedVariables false
set_option maxRecDepth 100000

theorem rtF_form (s : ByteArray) (p : Nat) : ∀ (f n : Nat) (acc t : List Int) (m : Nat), acc.length ≤ 4096 → rtF s p f n acc = (t, m, 0) → ∃ l : List UInt8, t = acc ++ l.map (fun x => (x.toNat : Int)) ∧ acc.length + l.length ≤ 4096 ∧ Lies s (p + n) (escL l ++ [0, 1]) ∧ m = n + (escL l).length + 2
  | 0, n, acc, t, m, ha, h => by unfold rtF at h; simp at h
  | f + 1, n, acc, t, m, ha, h => by
    by_cases h1 : p + n < s.size
    · by_cases h0 : s[p + n].toNat = 0
      · by_cases he : etE s (p + n + 1) = 0
        · have hin := etE_lt he
          cases hv : etV s (p + n + 1)
          · rw [rtF_zero s p f n acc h1 h0 he hv] at h
            by_cases hm : acc.length = 4096
            · rw [if_pos hm] at h; simp at h
            · rw [if_neg hm] at h
              obtain ⟨l, g1, g2, g3, g4⟩ := rtF_form s p f (n + 2) (acc ++ [0]) t m (by simp; omega) h
              have e : escL ((0 : UInt8) :: l) = 0 :: 255 :: escL l := by simp [escL]
              refine ⟨0 :: l, by rw [g1]; simp, by simp at g2 ⊢; omega, ?_, ?_⟩
              · rw [e]
                refine Lies.cons h1 (by omega) (Lies.cons hin ?_ (by rw [show p + n + 1 + 1 = p + (n + 2) by omega]; exact g3))
                unfold etE at he; unfold etV at hv
                rw [dif_pos hin] at he hv
                have h255 : s[p + n + 1].toNat = 255 := by
                  have : s[p + n + 1].toNat ≠ 1 := by simpa using hv
                  split at he
                  · omega
                  · omega
                omega
              · rw [e, g4]; simp only [List.length_cons]; omega
          · rw [rtF_end s p f n acc h1 h0 he hv] at h
            simp only [Prod.mk.injEq, and_true] at h
            refine ⟨[], by simp [h.1], by simpa using ha, ?_, by simp [escL]; omega⟩
            refine Lies.cons h1 (by omega) (Lies.cons hin ?_ (Lies.nil _ _))
            unfold etV at hv
            rw [dif_pos hin] at hv
            have : s[p + n + 1].toNat = 1 := by simpa using hv
            omega
        · rw [rtF_err s p f n acc h1 h0 he] at h
          simp only [Prod.mk.injEq] at h
          exact absurd h.2.2 he
      · rw [rtF_byte s p f n acc h1 h0] at h
        by_cases hm : acc.length = 4096
        · rw [if_pos hm] at h; simp at h
        · rw [if_neg hm] at h
          obtain ⟨l, g1, g2, g3, g4⟩ := rtF_form s p f (n + 1) (acc ++ [(s[p + n].toNat : Int)]) t m (by simp; omega) h
          have hx : s[p + n] ≠ 0 := fun e => h0 (by rw [e]; rfl)
          have e : escL (s[p + n] :: l) = (s[p + n].toNat : Int) :: escL l := by simp [escL, hx]
          refine ⟨s[p + n] :: l, by rw [g1]; simp, by simp at g2 ⊢; omega, ?_, ?_⟩
          · rw [e]
            exact Lies.cons h1 rfl (by rw [show p + n + 1 = p + (n + 1) by omega]; exact g3)
          · rw [e, g4]; simp only [List.length_cons]; omega
    · rw [rtF_short s p f n acc h1] at h; simp at h
theorem szF_most : ∀ (f n u : Nat), u < 256 ^ n → szF f u ≤ n
  | 0, n, u, h => by simp [szF]
  | f + 1, 0, u, h => by
    have : u = 0 := by simpa using h
    rw [this, szF_zero]; exact Nat.le_refl 0
  | f + 1, n + 1, u, h => by
    unfold szF
    split
    · omega
    · have := szF_most f n (u / 256) (by rw [Nat.pow_succ] at h; exact (Nat.div_lt_iff_lt_mul (by decide)).2 h)
      omega
theorem turn_lt (x t : Nat) (hx : x < 256) (ht : t < 256) : x ^^^ t < 256 := Nat.xor_lt_two_pow (n := 8) hx ht
theorem magV_digit (s : ByteArray) (p t : Nat) (ht : t < 256) : ∀ n, p + n ≤ s.size → ∀ j (hj : j < n), ∃ h : p + j < s.size, magV s p t n / 256 ^ (n - 1 - j) % 256 = s[p + j].toNat ^^^ t
  | 0, _, j, hj => absurd hj (by omega)
  | n + 1, hp, j, hj => by
    refine ⟨by omega, ?_⟩
    rw [magV_succ s p t n (by omega)]
    have hx := turn_lt _ t s[p + n].toNat_lt ht
    by_cases e : j = n
    · subst e
      rw [show j + 1 - 1 - j = 0 by omega, Nat.pow_zero, Nat.div_one]
      omega
    · obtain ⟨g1, g2⟩ := magV_digit s p t ht n (by omega) j (by omega)
      rw [← g2, show n + 1 - 1 - j = (n - 1 - j) + 1 by omega, Nat.pow_succ, Nat.mul_comm (256 ^ (n - 1 - j)) 256, ← Nat.div_div_eq_div_mul]
      congr 2
      omega
theorem magE_zero {s : ByteArray} {p t n : Nat} (ht : t < 256) (h : magE s p t n = 0) : p + n ≤ s.size ∧ szB (magV s p t n) = n ∧ magV s p t n < 9223372036854775808 := by
  have hlt := magV_lt s p t ht n
  have hm := szF_most 8 n _ hlt
  unfold magE at h
  split at h
  · omega
  · split at h
    · omega
    · split at h
      · omega
      · refine ⟨by omega, ?_, by omega⟩
        have : szB (magV s p t n) ≤ n := hm
        omega
theorem pos_form (s : ByteArray) (p n : Nat) (h : magE s p 0 n = 0) : Lies s p (hiB n (magV s p 0 n : Nat)) := by
  obtain ⟨h1, h2, h3⟩ := magE_zero (by omega) h
  intro j hj
  rw [hiB_len] at hj
  obtain ⟨g1, g2⟩ := magV_digit s p 0 (by omega) n h1 j hj
  refine ⟨g1, ?_⟩
  rw [hiB_get, pow28]
  rw [Nat.xor_zero] at g2
  rw [← g2]
  simp
theorem neg_form (s : ByteArray) (p n : Nat) (hn : n ≤ 8) (h : magE s p 255 n = 0) : Lies s p (hiB n (18446744073709551615 - (magV s p 255 n : Nat))) := by
  obtain ⟨h1, h2, h3⟩ := magE_zero (by omega) h
  intro j hj
  rw [hiB_len] at hj
  obtain ⟨g1, g2⟩ := magV_digit s p 255 (by omega) n h1 j hj
  refine ⟨g1, ?_⟩
  rw [hiB_get, pow28]
  have hb := turn_byte (magV s p 255 n) (n - 1 - j) (by omega) (by omega)
  have turn : ∀ x : Fin 256, x.val ^^^ 255 = 255 - x.val := by decide +kernel
  rw [turn ⟨s[p + j].toNat, s[p + j].toNat_lt⟩] at g2
  simp only at g2
  have hlt := s[p + j].toNat_lt
  have : ((s[p + j].toNat : Nat) : Int) = (((18446744073709551615 - magV s p 255 n) / 256 ^ (n - 1 - j) % 256 : Nat) : Int) := by
    rw [hb, g2]; omega
  rw [this, show (18446744073709551615 : Int) - ((magV s p 255 n : Nat) : Int) = ((18446744073709551615 - magV s p 255 n : Nat) : Int) by omega]
  simp
theorem strOf_map (l : List UInt8) : (strOfNums (l.map fun x => (x.toNat : Int))).data.toList = l := by
  unfold strOfNums
  simp only [List.map_map]
  have : ((fun n : Int => UInt8.ofNat n.toNat) ∘ fun x : UInt8 => (x.toNat : Int)) = id := by
    funext x; simp
  rw [this, List.map_id]
theorem keyV_two (i : Int) (t : ByteArray) : keyV (2, i, t) = keyI i := by unfold keyV; simp
theorem rkV_form (s : ByteArray) (p m : Nat) (hp : p < s.size) (v : Int × Int × ByteArray) (h : rkV s (p + 1) (s[p].toNat : Int) = (v, m, 0)) : canV v ∧ Lies s p (keyV v) ∧ m + 1 = (keyV v).length := by
  obtain ⟨tag, htag⟩ : ∃ tag, tag = (s[p].toNat : Int) := ⟨_, rfl⟩
  rw [← htag] at h
  unfold rkV at h
  by_cases c1 : tag = 16
  · rw [if_pos c1] at h
    simp only [Prod.mk.injEq, and_true] at h
    obtain ⟨rfl, rfl⟩ := h
    exact ⟨.inl rfl, Lies.cons hp (by omega) (Lies.nil _ _), rfl⟩
  · rw [if_neg c1] at h
    by_cases c2 : tag = 32 ∨ tag = 33
    · rw [if_pos c2] at h
      simp only [Prod.mk.injEq, and_true] at h
      obtain ⟨rfl, rfl⟩ := h
      exact ⟨.inr (.inl ⟨_, rfl, by omega, by omega⟩), Lies.cons hp (by show _ = 32 + (tag - 32); omega) (Lies.nil _ _), rfl⟩
    · rw [if_neg c2] at h
      by_cases c3 : 47 ≤ tag ∧ tag ≤ 64
      · rw [if_pos c3] at h
        simp only [Prod.mk.injEq] at h
        obtain ⟨rfl, rfl, h3⟩ := h
        by_cases c5 : 56 ≤ tag
        · have hN : (tagN tag : Int) = tag - 56 := by unfold tagN; rw [if_pos c5]; omega
          have hT : tagT tag = 0 := by unfold tagT; rw [if_pos c5]
          have hV : tagV s (p + 1) tag = (magV s (p + 1) 0 (tagN tag) : Nat) := by unfold tagV; rw [if_pos c5]
          rw [hT] at h3
          obtain ⟨g1, g2, g3⟩ := magE_zero (by omega) h3
          have g4 := pos_form s (p + 1) (tagN tag) h3
          rw [hV]
          have e : keyV (2, ((magV s (p + 1) 0 (tagN tag) : Nat) : Int), ⟨#[]⟩) = (56 + (tagN tag : Int)) :: hiB (tagN tag) (magV s (p + 1) 0 (tagN tag) : Nat) := by
            rw [keyV_two]
            unfold keyI
            rw [if_pos (by omega), Int.toNat_natCast, g2, show IntKind.u64.wrap ((magV s (p + 1) 0 (tagN tag) : Nat) : Int) = ((magV s (p + 1) 0 (tagN tag) : Nat) : Int) by rw [IntKind.wrap_u64]; omega]
          rw [e]
          exact ⟨.inr (.inr (.inl ⟨_, rfl, by omega, by omega⟩)), Lies.cons hp (by omega) g4, by rw [List.length_cons, hiB_len]⟩
        · have hN : (tagN tag : Int) = 55 - tag := by unfold tagN; rw [if_neg c5]; omega
          have hT : tagT tag = 255 := by unfold tagT; rw [if_neg c5]
          have hV : tagV s (p + 1) tag = -1 - ((magV s (p + 1) 255 (tagN tag) : Nat) : Int) := by unfold tagV; rw [if_neg c5]
          rw [hT] at h3
          obtain ⟨g1, g2, g3⟩ := magE_zero (by omega) h3
          have g4 := neg_form s (p + 1) (tagN tag) (by omega) h3
          rw [hV]
          have lo : -9223372036854775808 ≤ -1 - ((magV s (p + 1) 255 (tagN tag) : Nat) : Int) ∧ -1 - ((magV s (p + 1) 255 (tagN tag) : Nat) : Int) ≤ 9223372036854775807 := ⟨by omega, by omega⟩
          have e : keyV (2, -1 - ((magV s (p + 1) 255 (tagN tag) : Nat) : Int), ⟨#[]⟩) = (55 - (tagN tag : Int)) :: hiB (tagN tag) (18446744073709551615 - (magV s (p + 1) 255 (tagN tag) : Nat)) := by
            rw [keyV_two]
            unfold keyI
            rw [if_neg (by omega), show (-1 - (-1 - ((magV s (p + 1) 255 (tagN tag) : Nat) : Int))).toNat = magV s (p + 1) 255 (tagN tag) by omega, g2, show IntKind.u64.wrap (-1 - ((magV s (p + 1) 255 (tagN tag) : Nat) : Int)) = 18446744073709551615 - ((magV s (p + 1) 255 (tagN tag) : Nat) : Int) by rw [IntKind.wrap_u64]; omega]
          rw [e]
          exact ⟨.inr (.inr (.inl ⟨_, rfl, lo.1, lo.2⟩)), Lies.cons hp (by omega) g4, by rw [List.length_cons, hiB_len]⟩
      · rw [if_neg c3] at h
        by_cases c4 : tag = 80
        · rw [if_pos c4] at h
          simp only [Prod.mk.injEq] at h
          obtain ⟨rfl, rfl, h3⟩ := h
          obtain ⟨l, g1, g2, g3, g4⟩ := rtF_form s (p + 1) (s.size + 1) 0 [] (rtV s (p + 1)).1 (rtV s (p + 1)).2.1 (by simp) (by rw [← h3]; rfl)
          rw [List.nil_append] at g1
          rw [g1, g4]
          have hsz : (strOfNums (l.map fun x => (x.toNat : Int))).size = l.length := by rw [strOfNums_size, List.length_map]
          have e : keyV (3, 0, strOfNums (l.map fun x => (x.toNat : Int))) = 80 :: (escL l ++ [0, 1]) := by
            show 80 :: escL (strOfNums (l.map fun x => (x.toNat : Int))).data.toList ++ [0, 1] = _
            rw [strOf_map]; rfl
          rw [e]
          simp only [List.length_nil] at g2
          refine ⟨.inr (.inr (.inr ⟨_, rfl, by omega⟩)), Lies.cons hp (by omega) (by simpa using g3), ?_⟩
          simp only [List.length_cons, List.length_append, List.length_nil]; omega
        · rw [if_neg c4] at h
          simp at h
theorem rkF_form (s : ByteArray) (p : Nat) : ∀ (f n : Nat) (acc vs : List (Int × Int × ByteArray)) (m : Nat), acc.length ≤ 16 → rkF s p f n acc = (vs, m, 0) → ∃ us, vs = acc ++ us ∧ vs.length ≤ 16 ∧ (∀ v ∈ us, canV v) ∧ Lies s (p + n) (keyL us) ∧ s.size ≤ p + n + (keyL us).length
  | 0, n, acc, vs, m, ha, h => by unfold rkF at h; simp at h
  | f + 1, n, acc, vs, m, ha, h => by
    by_cases h1 : p + n < s.size
    · by_cases hm : acc.length = 16
      · rw [rkF_many s p f n acc h1 hm] at h; simp at h
      · rw [rkF_step s p f n acc h1 hm] at h
        by_cases c : (rkV s (p + n + 1) s[p + n].toNat).2.2 = 0
        · rw [if_pos c] at h
          obtain ⟨us, g1, g2, g3, g4, g5⟩ := rkF_form s p f _ _ vs m (by simp; omega) h
          obtain ⟨k1, k2, k3⟩ := rkV_form s (p + n) _ h1 _ (show rkV s (p + n + 1) (s[p + n].toNat : Int) = ((rkV s (p + n + 1) s[p + n].toNat).1, (rkV s (p + n + 1) s[p + n].toNat).2.1, 0) by rw [← c])
          generalize (rkV s (p + n + 1) (s[p + n].toNat : Int)).1 = v at *
          generalize (rkV s (p + n + 1) (s[p + n].toNat : Int)).2.1 = k at *
          have e : keyL (v :: us) = keyV v ++ keyL us := by unfold keyL; rw [List.flatMap_cons]
          refine ⟨v :: us, by rw [g1]; simp, g2, ?_, ?_, ?_⟩
          · intro x hx
            rcases List.mem_cons.1 hx with rfl | hx
            · exact k1
            · exact g3 x hx
          · rw [e]
            exact Lies.append k2 (by rw [← k3, show p + n + (k + 1) = p + (n + 1 + k) by omega]; exact g4)
          · rw [e, List.length_append]
            omega
        · rw [if_neg c] at h
          simp only [Prod.mk.injEq] at h
          exact absurd h.2.2 c
    · rw [rkF_end s p f n acc h1] at h
      simp only [Prod.mk.injEq, and_true] at h
      exact ⟨[], by simp [h.1], by rw [← h.1]; exact ha, by simp, Lies.nil _ _, by show s.size ≤ p + n + 0; omega⟩
/-- A key that is read is the key of what was read. -/
theorem rkL_form (s : ByteArray) (vs : List (Int × Int × ByteArray)) (m : Nat) (h : rkL s 0 = (vs, m, 0)) : s = strOfNums (keyL vs) ∧ vs.length ≤ 16 ∧ ∀ v ∈ vs, canV v := by
  obtain ⟨us, h1, h2, h3, h4, h5⟩ := rkF_form s 0 _ 0 [] vs m (by simp) h
  rw [List.nil_append] at h1
  subst h1
  have hall : Lies s 0 (keyL vs) := by simpa using h4
  have := hall.in (by omega)
  exact ⟨lies_whole s _ hall (by omega), h2, h3⟩
theorem fault_can (v : Int × Int × ByteArray) (h : canV v) : faultV v = 0 := by
  rcases h with rfl | ⟨i, rfl, h0, h1⟩ | ⟨i, rfl, h0, h1⟩ | ⟨t, rfl, h0⟩
  · simp [faultV, fault0, Lib.toList_data]
  · have : i = 0 ∨ i = 1 := by omega
    rcases this with rfl | rfl <;> simp [faultV, fault1, Lib.toList_data]
  · simp [faultV, fault2, Lib.toList_data]
  · unfold faultV
    rw [if_neg (by simp), if_neg (by simp), if_neg (by simp), if_neg (by simp)]
    unfold fault3
    rw [if_neg (by simp; omega), if_pos (by simp)]
theorem faults_can : ∀ (vs : List (Int × Int × ByteArray)), (∀ v ∈ vs, canV v) → faultL vs = 0
  | [], _ => rfl
  | v :: r, h => by
    unfold faultL
    rw [if_neg (by rw [fault_can v (h v (by simp))]; simp)]
    exact faults_can r fun x hx => h x (by simp [hx])
end Go.Proofs.YtjcffcpmegpjeaaGreatDoor
