import Derived.Test.YtfofionocnbohaaDoorLkP
namespace Go.Proofs.YtfofionocnbohaaDoor
set_option linter.unusedVariables false
set_option maxRecDepth 100000
/-- Two characters with one number have the same bytes. -/
theorem cdN_inj (a b c d e f g h : Nat) (hl : cdN a b c d = cdN e f g h) : wdN a b c d = wdN e f g h ∧ a = e ∧ (2 ≤ wdN a b c d → b = f) ∧ (3 ≤ wdN a b c d → c = g) ∧ (4 ≤ wdN a b c d → d = h) := by
  have key : ∀ a b c d : Nat, (wdN a b c d = 1 ∧ ((a < 128 ∧ cdN a b c d = a) ∨ (128 ≤ a ∧ cdN a b c d = -1 - (a : Int)))) ∨
      (wdN a b c d = 2 ∧ 194 ≤ a ∧ a ≤ 223 ∧ 128 ≤ b ∧ b ≤ 191 ∧ cdN a b c d = ((a - 192) * 64 + (b - 128) : Nat)) ∨
      (wdN a b c d = 3 ∧ 224 ≤ a ∧ a ≤ 239 ∧ 128 ≤ b ∧ b ≤ 191 ∧ (a = 224 → 160 ≤ b) ∧ 128 ≤ c ∧ c ≤ 191 ∧ cdN a b c d = ((a - 224) * 4096 + (b - 128) * 64 + (c - 128) : Nat)) ∨
      (wdN a b c d = 4 ∧ 240 ≤ a ∧ a ≤ 244 ∧ 128 ≤ b ∧ b ≤ 191 ∧ (a = 240 → 144 ≤ b) ∧ 128 ≤ c ∧ c ≤ 191 ∧ 128 ≤ d ∧ d ≤ 191 ∧ cdN a b c d = ((a - 240) * 262144 + (b - 128) * 4096 + (c - 128) * 64 + (d - 128) : Nat)) := by
    intro a b c d
    have hp := wdN_pos a b c d
    have hcases : wdN a b c d = 1 ∨ wdN a b c d = 2 ∨ wdN a b c d = 3 ∨ wdN a b c d = 4 := by omega
    rcases hcases with h | h | h | h
    · refine Or.inl ⟨h, ?_⟩
      unfold cdN
      rw [h]
      by_cases ha : a < 128
      · exact Or.inl ⟨ha, by simp [ha]⟩
      · exact Or.inr ⟨by omega, by simp [ha]⟩
    · refine Or.inr (Or.inl ⟨h, ?_⟩)
      have hc : cdN a b c d = ((a - 192) * 64 + (b - 128) : Nat) := by unfold cdN; rw [if_pos h]
      rw [hc]
      unfold wdN at h
      repeat' split at h
      all_goals omega
    · refine Or.inr (Or.inr (Or.inl ⟨h, ?_⟩))
      have hc : cdN a b c d = ((a - 224) * 4096 + (b - 128) * 64 + (c - 128) : Nat) := by unfold cdN; rw [if_neg (by omega), if_pos h]
      rw [hc]
      unfold wdN at h
      repeat' split at h
      all_goals omega
    · refine Or.inr (Or.inr (Or.inr ⟨h, ?_⟩))
      have hc : cdN a b c d = ((a - 240) * 262144 + (b - 128) * 4096 + (c - 128) * 64 + (d - 128) : Nat) := by unfold cdN; rw [if_neg (by omega), if_neg (by omega), if_pos h]
      rw [hc]
      unfold wdN at h
      repeat' split at h
      all_goals omega
  have k1 := key a b c d
  have k2 := key e f g h
  omega
theorem gB_some {l : List UInt8} {k : Nat} {x : UInt8} (h : l[k]? = some x) : gB l k = x.toNat := by unfold gB; rw [h]
/-- The bytes of a character, from its number. -/
theorem take_inj {l m : List UInt8} (hl : l ≠ []) (hm : m ≠ []) : cdL l = cdL m ↔ l.take (wdL l) = m.take (wdL m) := by
  constructor
  · intro h
    obtain ⟨h0, h1, h2, h3, h4⟩ := cdN_inj _ _ _ _ _ _ _ _ h
    have hw : wdL l = wdL m := h0
    have h2' : 2 ≤ wdL l → gB l 1 = gB m 1 := h2
    have h3' : 3 ≤ wdL l → gB l 2 = gB m 2 := h3
    have h4' : 4 ≤ wdL l → gB l 3 = gB m 3 := h4
    have l1 := wdL_le hl
    have l2 := wdL_le hm
    have hp := wdL_pos l
    apply List.ext_getElem?
    intro k
    rw [List.getElem?_take, List.getElem?_take, ← hw]
    by_cases hk : k < wdL l
    · rw [if_pos hk, if_pos hk, List.getElem?_eq_getElem (by omega), List.getElem?_eq_getElem (by omega)]
      have e1 := gB_some (List.getElem?_eq_getElem (show k < l.length by omega))
      have e2 := gB_some (List.getElem?_eq_getElem (show k < m.length by omega))
      have e3 : gB l k = gB m k := by
        have : k = 0 ∨ k = 1 ∨ k = 2 ∨ k = 3 := by omega
        rcases this with rfl | rfl | rfl | rfl
        · exact h1
        · exact h2' (by omega)
        · exact h3' (by omega)
        · exact h4' (by omega)
      rw [e1, e2] at e3
      rw [UInt8.toNat_inj.1 e3]
    · rw [if_neg hk, if_neg hk]
  · intro h
    have l1 := wdL_le hl
    have l2 := wdL_le hm
    have hw : wdL l = wdL m := by
      have := congrArg List.length h
      rw [List.length_take, List.length_take] at this
      omega
    have hb : ∀ k, k < wdL l → gB l k = gB m k := by
      intro k hk
      have := congrArg (fun x : List UInt8 => x[k]?) h
      simp only [List.getElem?_take, if_pos hk, if_pos (show k < wdL m by omega)] at this
      unfold gB
      rw [this]
    have hp := wdL_pos l
    have h0 := hb 0 (by omega)
    unfold cdL cdN
    rw [show wdN (gB l 0) (gB l 1) (gB l 2) (gB l 3) = wdL l from rfl, show wdN (gB m 0) (gB m 1) (gB m 2) (gB m 3) = wdL m from rfl, ← hw, h0]
    by_cases c2 : wdL l = 2
    · rw [if_pos c2, if_pos c2, hb 1 (by omega)]
    · rw [if_neg c2, if_neg c2]
      by_cases c3 : wdL l = 3
      · rw [if_pos c3, if_pos c3, hb 1 (by omega), hb 2 (by omega)]
      · rw [if_neg c3, if_neg c3]
        by_cases c4 : wdL l = 4
        · rw [if_pos c4, if_pos c4, hb 1 (by omega), hb 2 (by omega), hb 3 (by omega)]
        · rw [if_neg c4, if_neg c4]
/-- A text with a byte below 128 in it: its characters are those ahead of it, it, and those behind it. -/
theorem wd_app (a : List UInt8) (y : UInt8) (b : List UInt8) (hy : y.toNat < 128) (ha : a ≠ []) : wdL (a ++ y :: b) = wdL a ∧ cdL (a ++ y :: b) = cdL a := by
  have hN : ∀ x p q r p' q' r' : Nat, (p' < 128 ∧ p = 0 ∨ p = p' ∧ (q' < 128 ∧ q = 0 ∨ q = q' ∧ (r' < 128 ∧ r = 0 ∨ r = r'))) → wdN x p' q' r' = wdN x p q r ∧ cdN x p' q' r' = cdN x p q r := by
    intro x p q r p' q' r' h
    have hw : wdN x p' q' r' = wdN x p q r := by
      unfold wdN
      repeat' split
      all_goals omega
    refine ⟨hw, ?_⟩
    unfold cdN
    rw [hw]
    rcases h with ⟨h1, rfl⟩ | ⟨rfl, ⟨h1, rfl⟩ | ⟨rfl, ⟨h1, rfl⟩ | rfl⟩⟩
    · have : wdN x 0 q r = 1 := by
        unfold wdN
        repeat' split
        all_goals omega
      simp [this]
    · have : wdN x p 0 r ≤ 2 := by
        unfold wdN
        repeat' split
        all_goals omega
      rw [if_neg (show ¬ wdN x p 0 r = 3 by omega), if_neg (show ¬ wdN x p 0 r = 3 by omega), if_neg (show ¬ wdN x p 0 r = 4 by omega), if_neg (show ¬ wdN x p 0 r = 4 by omega)]
    · have : wdN x p q 0 ≤ 3 := by
        unfold wdN
        repeat' split
        all_goals omega
      rw [if_neg (show ¬ wdN x p q 0 = 4 by omega), if_neg (show ¬ wdN x p q 0 = 4 by omega)]
    · rfl
  have hin : ∀ k, k < a.length → gB (a ++ y :: b) k = gB a k := fun k hk => by unfold gB; rw [List.getElem?_append_left hk]
  have hat : gB (a ++ y :: b) a.length = y.toNat := gB_some (by rw [List.getElem?_append_right (Nat.le_refl _)]; simp)
  have hpos := List.length_pos_iff.2 ha
  have h0 := hin 0 hpos
  unfold wdL cdL
  rw [h0]
  apply hN
  rcases Nat.lt_or_ge 1 a.length with g1 | g1
  · refine Or.inr ⟨(hin 1 g1).symm, ?_⟩
    rcases Nat.lt_or_ge 2 a.length with g2 | g2
    · refine Or.inr ⟨(hin 2 g2).symm, ?_⟩
      rcases Nat.lt_or_ge 3 a.length with g3 | g3
      · exact Or.inr (hin 3 g3).symm
      · have : a.length = 3 := by omega
        rw [this] at hat
        exact Or.inl ⟨by omega, gB_out g3⟩
    · have : a.length = 2 := by omega
      rw [this] at hat
      exact Or.inl ⟨by omega, gB_out g2⟩
  · have : a.length = 1 := by omega
    rw [this] at hat
    exact Or.inl ⟨by omega, gB_out g1⟩
theorem cd_low (y : UInt8) (b : List UInt8) (hy : y.toNat < 128) : wdL (y :: b) = 1 ∧ cdL (y :: b) = y.toNat := by
  have h0 : gB (y :: b) 0 = y.toNat := rfl
  have hw : ∀ p q r, wdN y.toNat p q r = 1 := fun p q r => by
    unfold wdN
    repeat' split
    all_goals omega
  refine ⟨by unfold wdL; rw [h0]; exact hw _ _ _, ?_⟩
  unfold cdL cdN
  rw [h0, hw]
  simp [hy]
theorem chL_app (y : UInt8) (hy : y.toNat < 128) (b a : List UInt8) : chL (a ++ y :: b) = chL a ++ (y.toNat : Int) :: chL b := by
  refine by_chars (P := fun a => chL (a ++ y :: b) = chL a ++ (y.toNat : Int) :: chL b) ?_ (fun a h ih => ?_) a
  · obtain ⟨h1, h2⟩ := cd_low y b hy
    rw [List.nil_append, chL_cons (by simp), h1, h2, chL_nil]
    rfl
  · obtain ⟨h1, h2⟩ := wd_app a y b hy h
    have hl := wdL_le h
    rw [chL_cons (by simp), h1, h2, chL_cons h, List.drop_append_of_le_length hl, ih]
    rfl
/-- A text without the byte y, which is below 128, has no character y. -/
theorem chL_not (y : UInt8) (hy : y.toNat < 128) (a : List UInt8) : y ∉ a → (y.toNat : Int) ∉ chL a := by
  refine by_chars (P := fun a => y ∉ a → (y.toNat : Int) ∉ chL a) (fun _ => by rw [chL_nil]; simp) (fun a h ih ha => ?_) a
  rw [chL_cons h]
  intro hm
  rcases List.mem_cons.1 hm with hm | hm
  · have hh := (take_inj (l := [y]) (m := a) (by simp) h).1 (by rw [(cd_low y [] hy).2]; exact hm)
    rw [(cd_low y [] hy).1] at hh
    apply ha
    have : y ∈ a.take (wdL a) := by rw [← hh]; simp
    exact List.mem_of_mem_take this
  · exact ih (fun hx => ha (List.mem_of_mem_drop hx)) hm
end Go.Proofs.YtfofionocnbohaaDoor
