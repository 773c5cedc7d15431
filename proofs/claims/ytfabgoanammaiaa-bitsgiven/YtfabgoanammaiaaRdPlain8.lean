import Derived.Test.YtfabgoanammaiaaRdPlain7
namespace Go.Proofs.Ytfabgoanammaiaa
set_option linter.unusedVariables false

theorem rtF_form (s : ByteArray) (p : Nat) : ∀ (f n : Nat) (acc t : List Int) (m : Nat), acc.length ≤ 4096 → rtF s p f n acc = (t, m, 0) → ∃ l : List UInt8, t = acc ++ l.map (fun x => (x.toNat : Int)) ∧ acc.length + l.length ≤ 4096 ∧ Lies s (p + n) (escL l ++ [0, 1]) ∧ m = n + (escL l).length + 2
  | 0, n, acc, t, m, ha, h => by unfold rtF at h; simp at h
  | f + 1, n, acc, t, m, ha, h => by
    by_cases h1 : p + n < s.size
    · by_cases h0 : s[p + n].toNat = 0
      · by_cases he : etE s (p + n + 1) = 0
        · have hin := etE_lt he
          cases hv : etV s (p + n + 1)
          · rw [rtF_zero s p f n acc h1 h0 he hv] at h
            by_cases hm : acc.length = 4096
            · rw [if_pos hm] at h; simp at h
            · rw [if_neg hm] at h
              obtain ⟨l, g1, g2, g3, g4⟩ := rtF_form s p f (n + 2) (acc ++ [0]) t m (by simp; omega) h
              have e : escL ((0 : UInt8) :: l) = 0 :: 255 :: escL l := by simp [escL]
              refine ⟨0 :: l, by rw [g1]; simp, by simp at g2 ⊢; omega, ?_, ?_⟩
              · rw [e]
                refine Lies.cons h1 (by omega) (Lies.cons hin ?_ (by rw [show p + n + 1 + 1 = p + (n + 2) by omega]; exact g3))
                unfold etE at he; unfold etV at hv
                rw [dif_pos hin] at he hv
                have h255 : s[p + n + 1].toNat = 255 := by
                  have : s[p + n + 1].toNat ≠ 1 := by simpa using hv
                  split at he
                  · omega
                  · omega
                omega
              · rw [e, g4]; simp only [List.length_cons]; omega
          · rw [rtF_end s p f n acc h1 h0 he hv] at h
            simp only [Prod.mk.injEq, and_true] at h
            refine ⟨[], by simp [h.1], by simpa using ha, ?_, by simp [escL]; omega⟩
            refine Lies.cons h1 (by omega) (Lies.cons hin ?_ (Lies.nil _ _))
            unfold etV at hv
            rw [dif_pos hin] at hv
            have : s[p + n + 1].toNat = 1 := by simpa using hv
            omega
        · rw [rtF_err s p f n acc h1 h0 he] at h
          simp only [Prod.mk.injEq] at h
          exact absurd h.2.2 he
      · rw [rtF_byte s p f n acc h1 h0] at h
        by_cases hm : acc.length = 4096
        · rw [if_pos hm] at h; simp at h
        · rw [if_neg hm] at h
          obtain ⟨l, g1, g2, g3, g4⟩ := rtF_form s p f (n + 1) (acc ++ [(s[p + n].toNat : Int)]) t m (by simp; omega) h
          have hx : s[p + n] ≠ 0 := fun e => h0 (by rw [e]; rfl)
          have e : escL (s[p + n] :: l) = (s[p + n].toNat : Int) :: escL l := by simp [escL, hx]
          refine ⟨s[p + n] :: l, by rw [g1]; simp, by simp at g2 ⊢; omega, ?_, ?_⟩
          · rw [e]
            exact Lies.cons h1 rfl (by rw [show p + n + 1 = p + (n + 1) by omega]; exact g3)
          · rw [e, g4]; simp only [List.length_cons]; omega
    · rw [rtF_short s p f n acc h1] at h; simp at h
theorem szF_most : ∀ (f n u : Nat), u < 256 ^ n → szF f u ≤ n
  | 0, n, u, h => by simp [szF]
  | f + 1, 0, u, h => by
    have : u = 0 := by simpa using h
    rw [this, szF_zero]; exact Nat.le_refl 0
  | f + 1, n + 1, u, h => by
    unfold szF
    split
    · omega
    · have := szF_most f n (u / 256) (by rw [Nat.pow_succ] at h; exact (Nat.div_lt_iff_lt_mul (by decide)).2 h)
      omega
theorem turn_lt (x t : Nat) (hx : x < 256) (ht : t < 256) : x ^^^ t < 256 := Nat.xor_lt_two_pow (n := 8) hx ht
theorem magV_digit (s : ByteArray) (p t : Nat) (ht : t < 256) : ∀ n, p + n ≤ s.size → ∀ j (hj : j < n), ∃ h : p + j < s.size, magV s p t n / 256 ^ (n - 1 - j) % 256 = s[p + j].toNat ^^^ t
  | 0, _, j, hj => absurd hj (by omega)
  | n + 1, hp, j, hj => by
    refine ⟨by omega, ?_⟩
    rw [magV_succ s p t n (by omega)]
    have hx := turn_lt _ t s[p + n].toNat_lt ht
    by_cases e : j = n
    · subst e
      rw [show j + 1 - 1 - j = 0 by omega, Nat.pow_zero, Nat.div_one]
      omega
    · obtain ⟨g1, g2⟩ := magV_digit s p t ht n (by omega) j (by omega)
      rw [← g2, show n + 1 - 1 - j = (n - 1 - j) + 1 by omega, Nat.pow_succ, Nat.mul_comm (256 ^ (n - 1 - j)) 256, ← Nat.div_div_eq_div_mul]
      congr 2
      omega
theorem magE_zero {s : ByteArray} {p t n : Nat} (ht : t < 256) (h : magE s p t n = 0) : p + n ≤ s.size ∧ szB (magV s p t n) = n ∧ magV s p t n < 9223372036854775808 := by
  have hlt := magV_lt s p t ht n
  have hm := szF_most 8 n _ hlt
  unfold magE at h
  split at h
  · omega
  · split at h
    · omega
    · split at h
      · omega
      · refine ⟨by omega, ?_, by omega⟩
        have : szB (magV s p t n) ≤ n := hm
        omega
theorem pos_form (s : ByteArray) (p n : Nat) (h : magE s p 0 n = 0) : Lies s p (hiB n (magV s p 0 n : Nat)) := by
  obtain ⟨h1, h2, h3⟩ := magE_zero (by omega) h
  intro j hj
  rw [hiB_len] at hj
  obtain ⟨g1, g2⟩ := magV_digit s p 0 (by omega) n h1 j hj
  refine ⟨g1, ?_⟩
  rw [hiB_get, pow28]
  rw [Nat.xor_zero] at g2
  rw [← g2]
  simp
theorem neg_form (s : ByteArray) (p n : Nat) (hn : n ≤ 8) (h : magE s p 255 n = 0) : Lies s p (hiB n (18446744073709551615 - (magV s p 255 n : Nat))) := by
  obtain ⟨h1, h2, h3⟩ := magE_zero (by omega) h
  intro j hj
  rw [hiB_len] at hj
  obtain ⟨g1, g2⟩ := magV_digit s p 255 (by omega) n h1 j hj
  refine ⟨g1, ?_⟩
  rw [hiB_get, pow28]
  have hb := turn_byte (magV s p 255 n) (n - 1 - j) (by omega) (by omega)
  have turn : ∀ x : Fin 256, x.val ^^^ 255 = 255 - x.val := by decide +kernel
  rw [turn ⟨s[p + j].toNat, s[p + j].toNat_lt⟩] at g2
  simp only at g2
  have hlt := s[p + j].toNat_lt
  have : ((s[p + j].toNat : Nat) : Int) = (((18446744073709551615 - magV s p 255 n) / 256 ^ (n - 1 - j) % 256 : Nat) : Int) := by
    rw [hb, g2]; omega
  rw [this, show (18446744073709551615 : Int) - ((magV s p 255 n : Nat) : Int) = ((18446744073709551615 - magV s p 255 n : Nat) : Int) by omega]
  simp
theorem strOf_map (l : List UInt8) : (strOfNums (l.map fun x => (x.toNat : Int))).data.toList = l := by
  unfold strOfNums
  simp only [List.map_map]
  have : ((fun n : Int => UInt8.ofNat n.toNat) ∘ fun x : UInt8 => (x.toNat : Int)) = id := by
    funext x; simp
  rw [this, List.map_id]
theorem keyV_two (i : Int) (t : ByteArray) : keyV (2, i, t) = keyI i := by unfold keyV; simp
theorem rkV_form (s : ByteArray) (p m : Nat) (hp : p < s.size) (v : Int × Int × ByteArray) (h : rkV s (p + 1) (s[p].toNat : Int) = (v, m, 0)) : canV v ∧ Lies s p (keyV v) ∧ m + 1 = (keyV v).length := by
  obtain ⟨tag, htag⟩ : ∃ tag, tag = (s[p].toNat : Int) := ⟨_, rfl⟩
  rw [← htag] at h
  unfold rkV at h
  by_cases c1 : tag = 16
  · rw [if_pos c1] at h
    simp only [Prod.mk.injEq, and_true] at h
    obtain ⟨rfl, rfl⟩ := h
    exact ⟨.inl rfl, Lies.cons hp (by omega) (Lies.nil _ _), rfl⟩
  · rw [if_neg c1] at h
    by_cases c2 : tag = 32 ∨ tag = 33
    · rw [if_pos c2] at h
      simp only [Prod.mk.injEq, and_true] at h
      obtain ⟨rfl, rfl⟩ := h
      exact ⟨.inr (.inl ⟨_, rfl, by omega, by omega⟩), Lies.cons hp (by show _ = 32 + (tag - 32); omega) (Lies.nil _ _), rfl⟩
    · rw [if_neg c2] at h
      by_cases c3 : 47 ≤ tag ∧ tag ≤ 64
      · rw [if_pos c3] at h
        simp only [Prod.mk.injEq] at h
        obtain ⟨rfl, rfl, h3⟩ := h
        by_cases c5 : 56 ≤ tag
        · have hN : (tagN tag : Int) = tag - 56 := by unfold tagN; rw [if_pos c5]; omega
          have hT : tagT tag = 0 := by unfold tagT; rw [if_pos c5]
          have hV : tagV s (p + 1) tag = (magV s (p + 1) 0 (tagN tag) : Nat) := by unfold tagV; rw [if_pos c5]
          rw [hT] at h3
          obtain ⟨g1, g2, g3⟩ := magE_zero (by omega) h3
          have g4 := pos_form s (p + 1) (tagN tag) h3
          rw [hV]
          have e : keyV (2, ((magV s (p + 1) 0 (tagN tag) : Nat) : Int), ⟨#[]⟩) = (56 + (tagN tag : Int)) :: hiB (tagN tag) (magV s (p + 1) 0 (tagN tag) : Nat) := by
            rw [keyV_two]
            unfold keyI
            rw [if_pos (by omega), Int.toNat_natCast, g2, show IntKind.u64.wrap ((magV s (p + 1) 0 (tagN tag) : Nat) : Int) = ((magV s (p + 1) 0 (tagN tag) : Nat) : Int) by rw [IntKind.wrap_u64]; omega]
          rw [e]
          exact ⟨.inr (.inr (.inl ⟨_, rfl, by omega, by omega⟩)), Lies.cons hp (by omega) g4, by rw [List.length_cons, hiB_len]⟩
        · have hN : (tagN tag : Int) = 55 - tag := by unfold tagN; rw [if_neg c5]; omega
          have hT : tagT tag = 255 := by unfold tagT; rw [if_neg c5]
          have hV : tagV s (p + 1) tag = -1 - ((magV s (p + 1) 255 (tagN tag) : Nat) : Int) := by unfold tagV; rw [if_neg c5]
          rw [hT] at h3
          obtain ⟨g1, g2, g3⟩ := magE_zero (by omega) h3
          have g4 := neg_form s (p + 1) (tagN tag) (by omega) h3
          rw [hV]
          have lo : -9223372036854775808 ≤ -1 - ((magV s (p + 1) 255 (tagN tag) : Nat) : Int) ∧ -1 - ((magV s (p + 1) 255 (tagN tag) : Nat) : Int) ≤ 9223372036854775807 := ⟨by omega, by omega⟩
          have e : keyV (2, -1 - ((magV s (p + 1) 255 (tagN tag) : Nat) : Int), ⟨#[]⟩) = (55 - (tagN tag : Int)) :: hiB (tagN tag) (18446744073709551615 - (magV s (p + 1) 255 (tagN tag) : Nat)) := by
            rw [keyV_two]
            unfold keyI
            rw [if_neg (by omega), show (-1 - (-1 - ((magV s (p + 1) 255 (tagN tag) : Nat) : Int))).toNat = magV s (p + 1) 255 (tagN tag) by omega, g2, show IntKind.u64.wrap (-1 - ((magV s (p + 1) 255 (tagN tag) : Nat) : Int)) = 18446744073709551615 - ((magV s (p + 1) 255 (tagN tag) : Nat) : Int) by rw [IntKind.wrap_u64]; omega]
          rw [e]
          exact ⟨.inr (.inr (.inl ⟨_, rfl, lo.1, lo.2⟩)), Lies.cons hp (by omega) g4, by rw [List.length_cons, hiB_len]⟩
      · rw [if_neg c3] at h
        by_cases c4 : tag = 80
        · rw [if_pos c4] at h
          simp only [Prod.mk.injEq] at h
          obtain ⟨rfl, rfl, h3⟩ := h
          obtain ⟨l, g1, g2, g3, g4⟩ := rtF_form s (p + 1) (s.size + 1) 0 [] (rtV s (p + 1)).1 (rtV s (p + 1)).2.1 (by simp) (by rw [← h3]; rfl)
          rw [List.nil_append] at g1
          rw [g1, g4]
          have hsz : (strOfNums (l.map fun x => (x.toNat : Int))).size = l.length := by rw [strOfNums_size, List.length_map]
          have e : keyV (3, 0, strOfNums (l.map fun x => (x.toNat : Int))) = 80 :: (escL l ++ [0, 1]) := by
            show 80 :: escL (strOfNums (l.map fun x => (x.toNat : Int))).data.toList ++ [0, 1] = _
            rw [strOf_map]; rfl
          rw [e]
          simp only [List.length_nil] at g2
          refine ⟨.inr (.inr (.inr ⟨_, rfl, by omega⟩)), Lies.cons hp (by omega) (by simpa using g3), ?_⟩
          simp only [List.length_cons, List.length_append, List.length_nil]; omega
        · rw [if_neg c4] at h
          simp at h
theorem rkF_form (s : ByteArray) (p : Nat) : ∀ (f n : Nat) (acc vs : List (Int × Int × ByteArray)) (m : Nat), acc.length ≤ 16 → rkF s p f n acc = (vs, m, 0) → ∃ us, vs = acc ++ us ∧ vs.length ≤ 16 ∧ (∀ v ∈ us, canV v) ∧ Lies s (p + n) (keyL us) ∧ s.size ≤ p + n + (keyL us).length
  | 0, n, acc, vs, m, ha, h => by unfold rkF at h; simp at h
  | f + 1, n, acc, vs, m, ha, h => by
    by_cases h1 : p + n < s.size
    · by_cases hm : acc.length = 16
      · rw [rkF_many s p f n acc h1 hm] at h; simp at h
      · rw [rkF_step s p f n acc h1 hm] at h
        by_cases c : (rkV s (p + n + 1) s[p + n].toNat).2.2 = 0
        · rw [if_pos c] at h
          obtain ⟨us, g1, g2, g3, g4, g5⟩ := rkF_form s p f _ _ vs m (by simp; omega) h
          obtain ⟨k1, k2, k3⟩ := rkV_form s (p + n) _ h1 _ (show rkV s (p + n + 1) (s[p + n].toNat : Int) = ((rkV s (p + n + 1) s[p + n].toNat).1, (rkV s (p + n + 1) s[p + n].toNat).2.1, 0) by rw [← c])
          generalize (rkV s (p + n + 1) (s[p + n].toNat : Int)).1 = v at *
          generalize (rkV s (p + n + 1) (s[p + n].toNat : Int)).2.1 = k at *
          have e : keyL (v :: us) = keyV v ++ keyL us := by unfold keyL; rw [List.flatMap_cons]
          refine ⟨v :: us, by rw [g1]; simp, g2, ?_, ?_, ?_⟩
          · intro x hx
            rcases List.mem_cons.1 hx with rfl | hx
            · exact k1
            · exact g3 x hx
          · rw [e]
            exact Lies.append k2 (by rw [← k3, show p + n + (k + 1) = p + (n + 1 + k) by omega]; exact g4)
          · rw [e, List.length_append]
            omega
        · rw [if_neg c] at h
          simp only [Prod.mk.injEq] at h
          exact absurd h.2.2 c
    · rw [rkF_end s p f n acc h1] at h
      simp only [Prod.mk.injEq, and_true] at h
      exact ⟨[], by simp [h.1], by rw [← h.1]; exact ha, by simp, Lies.nil _ _, by show s.size ≤ p + n + 0; omega⟩
/-- A key that is read is the key of what was read. -/
theorem rkL_form (s : ByteArray) (vs : List (Int × Int × ByteArray)) (m : Nat) (h : rkL s 0 = (vs, m, 0)) : s = strOfNums (keyL vs) ∧ vs.length ≤ 16 ∧ ∀ v ∈ vs, canV v := by
  obtain ⟨us, h1, h2, h3, h4, h5⟩ := rkF_form s 0 _ 0 [] vs m (by simp) h
  rw [List.nil_append] at h1
  subst h1
  have hall : Lies s 0 (keyL vs) := by simpa using h4
  have := hall.in (by omega)
  exact ⟨lies_whole s _ hall (by omega), h2, h3⟩
theorem fault_can (v : Int × Int × ByteArray) (h : canV v) : faultV v = 0 := by
  rcases h with rfl | ⟨i, rfl, h0, h1⟩ | ⟨i, rfl, h0, h1⟩ | ⟨t, rfl, h0⟩
  · simp [faultV, fault0, Lib.toList_data]
  · have : i = 0 ∨ i = 1 := by omega
    rcases this with rfl | rfl <;> simp [faultV, fault1, Lib.toList_data]
  · simp [faultV, fault2, Lib.toList_data]
  · unfold faultV
    rw [if_neg (by simp), if_neg (by simp), if_neg (by simp), if_neg (by simp)]
    unfold fault3
    rw [if_neg (by simp; omega), if_pos (by simp)]
theorem faults_can : ∀ (vs : List (Int × Int × ByteArray)), (∀ v ∈ vs, canV v) → faultL vs = 0
  | [], _ => rfl
  | v :: r, h => by
    unfold faultL
    rw [if_neg (by rw [fault_can v (h v (by simp))]; simp)]
    exact faults_can r fun x hx => h x (by simp [hx])
end Go.Proofs.Ytfabgoanammaiaa
