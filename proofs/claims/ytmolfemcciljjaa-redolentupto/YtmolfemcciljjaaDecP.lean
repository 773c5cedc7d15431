import Derived.Test.YtmolfemcciljjaaBack1
import Derived.Test.YtmolfemcciljjaaRedE1
namespace Go.Proofs.Ytmolfemcciljjaa
open Go.ChangeShapes Go.WideShapes Go.ChangeAt Go.RowKit
set_option linter.unusedVariables false
set_option maxRecDepth 100000
theorem HasAt.cons {s : ByteArray} {p : Nat} {x : Int} {L : List Int} (hp : p < s.size) (hx : (s[p].toNat : Int) = x) (h : HasAt s (p + 1) L) : HasAt s p (x :: L) := by
  intro j hj
  cases j with
  | zero => exact ⟨hp, by simpa using hx⟩
  | succ j =>
    obtain ⟨h1, h2⟩ := h j (by simpa using hj)
    refine ⟨by omega, ?_⟩
    rw [List.getElem_cons_succ, ← h2]
    congr 3
    omega
theorem HasAt.nil (s : ByteArray) (p : Nat) : HasAt s p [] := fun j hj => absurd hj (by simp)
theorem HasAt.append {s : ByteArray} {p : Nat} : ∀ {L M : List Int}, HasAt s p L → HasAt s (p + L.length) M → HasAt s p (L ++ M)
  | [], M, h, g => by simpa using g
  | x :: L, M, h, g => by
    obtain ⟨h1, h2⟩ := h.head
    exact HasAt.cons h1 h2 (HasAt.append h.tail (by rw [List.length_cons] at g; rw [show p + 1 + L.length = p + (L.length + 1) by omega]; exact g))
theorem has_whole (s : ByteArray) (L : List Int) (h : HasAt s 0 L) (hl : L.length = s.size) : s = strOfNums L := by
  have hz := strOfNums_size L
  apply ByteArray.ext
  apply Array.ext
  · show s.size = (strOfNums L).size
    omega
  · intro i h1 h2
    have hi : i < s.size := h1
    obtain ⟨g1, g2⟩ := h i (by omega)
    have e : (strOfNums L).data[i] = UInt8.ofNat (L[i]'(by omega)).toNat := by simp [strOfNums]
    rw [e, ← g2]
    have e2 : s[0 + i] = s.data[i] := by simp only [Nat.zero_add]; rfl
    rw [e2]
    simp
theorem ru_formH (s : ByteArray) (p : Nat) (f : Nat) : ∀ (n acc u m : Nat), f + n = 9 → ruF s p (f + 1) n acc = (u, m, 0) → ∃ v : Nat, u = acc + v * 128 ^ n ∧ (0 < v ∨ n = 0) ∧ HasAt s (p + n) (uvF f v) ∧ m = n + (uvF f v).length := by
  induction f with
  | zero =>
    intro n acc u m hf h
    have hn : n = 9 := by omega
    subst hn
    by_cases hl : p + 9 < s.size
    · by_cases h1 : 1 < s[p + 9].toNat
      · rw [ruF_far s p 0 9 acc hl rfl h1] at h; simp at h
      · by_cases h0 : s[p + 9].toNat = 0
        · rw [ruF_canon s p 0 9 acc hl (by omega) h0] at h; simp at h
        · rw [ruF_done s p 0 9 acc hl (by omega) (by omega) (.inl h0)] at h
          simp only [Prod.mk.injEq, and_true] at h
          refine ⟨s[p + 9].toNat, h.1.symm, .inl (by omega), HasAt.cons hl rfl (HasAt.nil _ _), ?_⟩
          simp only [uvF, List.length_singleton]; exact h.2.symm
    · rw [ruF_short s p 0 9 acc hl] at h; simp at h
  | succ f ih =>
    intro n acc u m hf h
    by_cases hl : p + n < s.size
    · by_cases hb : 128 ≤ s[p + n].toNat
      · rw [ruF_more s p (f + 1) n acc hl (by omega) hb] at h
        obtain ⟨v, h1, h2, h3, h4⟩ := ih (n + 1) _ u m (by omega) h
        have hlt := s[p + n].toNat_lt
        have h2' : 0 < v := by omega
        have e : uvF (f + 1) ((v * 128 + s[p + n].toNat % 128 : Nat) : Int) = ((s[p + n].toNat : Nat) : Int) :: uvF f (v : Int) := by
          rw [uvF_great f _ (by omega)]
          congr 1
          · omega
          · congr 1; omega
        refine ⟨v * 128 + s[p + n].toNat % 128, ?_, .inl (by omega), ?_, ?_⟩
        · rw [h1, Nat.add_mul, Nat.pow_succ, Nat.mul_assoc v 128, Nat.mul_comm 128 (128 ^ n)]; omega
        · rw [e]
          exact HasAt.cons hl rfl (by rw [show p + n + 1 = p + (n + 1) by omega]; exact h3)
        · rw [e, h4, List.length_cons]; omega
      · by_cases h0 : s[p + n].toNat = 0 ∧ 0 < n
        · rw [ruF_canon s p (f + 1) n acc hl h0.2 h0.1] at h; simp at h
        · rw [ruF_done s p (f + 1) n acc hl (by omega) (by omega) (by omega)] at h
          simp only [Prod.mk.injEq, and_true] at h
          have e : uvF (f + 1) ((s[p + n].toNat : Nat) : Int) = [((s[p + n].toNat : Nat) : Int)] := uvF_small _ _ (by omega)
          refine ⟨s[p + n].toNat, h.1.symm, by omega, by rw [e]; exact HasAt.cons hl rfl (HasAt.nil _ _), ?_⟩
          rw [e, List.length_singleton]; exact h.2.symm
    · rw [ruF_short s p (f + 1) n acc hl] at h; simp at h
theorem ru_form0H (s : ByteArray) (p u m : Nat) (h : ruV s p = (u, m, 0)) : HasAt s p (uvB u) ∧ m = (uvB u).length := by
  obtain ⟨v, h1, h2, h3, h4⟩ := ru_formH s p 9 0 0 u m rfl h
  simp only [Nat.pow_zero, Nat.mul_one, Nat.zero_add] at h1
  subst h1
  exact ⟨h3, by rw [h4, Nat.zero_add]; rfl⟩
theorem HasAt.left {s : ByteArray} {p : Nat} {L M : List Int} (h : HasAt s p (L ++ M)) : HasAt s p L := by
  intro j hj
  obtain ⟨h1, h2⟩ := h j (by rw [List.length_append]; omega)
  refine ⟨h1, ?_⟩
  rw [h2, List.getElem_append_left hj]
theorem HasAt.right {s : ByteArray} {p : Nat} {L M : List Int} (h : HasAt s p (L ++ M)) : HasAt s (p + L.length) M := by
  intro j hj
  obtain ⟨h1, h2⟩ := h (L.length + j) (by rw [List.length_append]; omega)
  refine ⟨by omega, ?_⟩
  rw [List.getElem_append_right (by omega)] at h2
  simp only [Nat.add_sub_cancel_left] at h2
  rw [← h2]
  congr 3
  omega
theorem HasAt.size {s : ByteArray} {p : Nat} {L : List Int} (h : HasAt s p L) (hp : p ≤ s.size) : p + L.length ≤ s.size := by
  rcases Nat.eq_zero_or_pos L.length with e | e
  · omega
  · obtain ⟨h1, _⟩ := h (L.length - 1) (by omega)
    omega
/-- A text's own bytes. -/
theorem has_text {s t : ByteArray} {p : Nat} (h : HasAt s p (txtN t)) (hp : p + t.size ≤ s.size) : s.extract p (p + t.size) = t := by
  apply ByteArray.ext_getElem
  · rw [ext_size s p t.size hp]
  · intro i h1 h2
    obtain ⟨g1, g2⟩ := h i (by rw [txtN_len]; exact h2)
    rw [ext_get s p t.size i hp h2 h1 g1]
    apply UInt8.toNat_inj.1
    have : (txtN t)[i]'(by rw [txtN_len]; exact h2) = (t[i].toNat : Int) := by unfold txtN; rw [List.getElem_map]; rfl
    rw [this] at g2
    omega
theorem text_has (s : ByteArray) (p n : Nat) (hp : p + n ≤ s.size) : HasAt s p (txtN (s.extract p (p + n))) := by
  intro i hi
  have hz := ext_size s p n hp
  rw [txtN_len, hz] at hi
  refine ⟨by omega, ?_⟩
  have : (txtN (s.extract p (p + n)))[i]'(by rw [txtN_len, hz]; exact hi) = ((s.extract p (p + n))[i]'(by omega)).toNat := by unfold txtN; rw [List.getElem_map]; rfl
  rw [this, ext_get s p n i hp hi (by omega) (by omega)]
/-- A text with its length ahead is read back. -/
theorem rb_back (s t : ByteArray) (p m : Nat) (hp : p ≤ s.size) (ht : t.size ≤ m) (hm : m ≤ 1048576) (h : HasAt s p (uvB t.size ++ txtN t)) : rbV s p m = (t, (uvB t.size).length + t.size, 0) := by
  have h1 := ru_back0 s p t.size h.left (by omega)
  have h2 := h.right
  have h3 := h.size hp
  rw [List.length_append, txtN_len] at h3
  unfold rbV
  rw [h1]
  simp only [if_true]
  rw [if_neg (by omega), if_pos (by omega), has_text h2 (by omega)]
/-- What is read as a text has that text's bytes. -/
theorem rb_form (s : ByteArray) (p m : Nat) (hc : (rbV s p m).2.2 = 0) : HasAt s p (uvB (rbV s p m).1.size ++ txtN (rbV s p m).1) ∧ (rbV s p m).2.1 = (uvB (rbV s p m).1.size).length + (rbV s p m).1.size ∧ (rbV s p m).1.size ≤ m ∧ p + (rbV s p m).2.1 ≤ s.size := by
  unfold rbV at hc ⊢
  split at hc
  · rename_i c0
    split at hc
    · cases hc
    · rename_i c1
      split at hc
      · rename_i c2
        rw [if_pos c0, if_neg c1, if_pos c2]
        simp only
        obtain ⟨f1, f2⟩ := ru_form0H s p (ruV s p).1 (ruV s p).2.1 (by rw [← c0])
        have hz := ext_size s (p + (ruV s p).2.1) (ruV s p).1 c2
        rw [hz]
        refine ⟨HasAt.append f1 ?_, by omega, by omega, by omega⟩
        rw [← f2]
        exact text_has s _ _ c2
      · cases hc
  · rename_i c0
    exact absurd hc c0
def bytA (s : ByteArray) (p : Nat) : Int := if h : p < s.size then (s[p].toNat : Int) else 0
/-- What is read of a write at a place: the write, and the place behind it. -/
def rdWr (s : ByteArray) (p : Nat) : Option (W3 × Nat) :=
  if p < s.size then
    if (rbV s (p + 1) 1048576).2.2 = 0 then
      if bytA s p = 1 then
        if (rbV s (p + 1 + (rbV s (p + 1) 1048576).2.1) 1048576).2.2 = 0 then some ((1, (rbV s (p + 1) 1048576).1, (rbV s (p + 1 + (rbV s (p + 1) 1048576).2.1) 1048576).1), p + 1 + (rbV s (p + 1) 1048576).2.1 + (rbV s (p + 1 + (rbV s (p + 1) 1048576).2.1) 1048576).2.1)
        else none
      else some ((bytA s p, (rbV s (p + 1) 1048576).1, ⟨#[]⟩), p + 1 + (rbV s (p + 1) 1048576).2.1)
    else none
  else none
def rdWs (s : ByteArray) : Nat → Nat → Option (List W3 × Nat)
  | 0, p => some ([], p)
  | n + 1, p => match rdWr s p with
    | none => none
    | some (w, q) => match rdWs s n q with
      | none => none
      | some (l, r) => some (w :: l, r)
/-- What a text is read as. -/
def rdCo (s : ByteArray) : Option (Int × List W3) :=
  if (ruV s 0).2.2 = 0 then
    if (ruV s (ruV s 0).2.1).2.2 = 0 ∧ (ruV s (ruV s 0).2.1).1 ≤ 128 then
      match rdWs s (ruV s (ruV s 0).2.1).1 ((ruV s 0).2.1 + (ruV s (ruV s 0).2.1).2.1) with
      | none => none
      | some (l, r) => if r = s.size ∧ mayC ((ruV s 0).1 : Nat) l = true then some (((ruV s 0).1 : Nat), l) else none
    else none
  else none
/-- A write is read back. -/
theorem rdWr_back (s : ByteArray) (p : Nat) (v : W3) (hv : mayW v = true) (hp : p ≤ s.size) (h : HasAt s p (encWr v)) : rdWr s p = some (v, p + (encWr v).length) := by
  obtain ⟨k, a, d⟩ := v
  obtain ⟨m1, m2, m3, m4⟩ := mayW_parts hv
  simp only at m1 m2 m3 m4
  have hk : k % 256 = k := by omega
  unfold encWr at h ⊢
  simp only at h ⊢
  rw [hk] at h ⊢
  rw [List.append_assoc] at h
  obtain ⟨g1, g2⟩ := h.head
  have t1 : HasAt s (p + 1) ((uvB a.size ++ txtN a) ++ (if k = 1 then uvB d.size ++ txtN d else [])) := h.tail
  have b1 := rb_back s a (p + 1) 1048576 (by omega) (by omega) (by omega) t1.left
  have hb : bytA s p = k := by unfold bytA; rw [dif_pos g1]; exact g2
  unfold rdWr
  rw [if_pos g1, b1]
  simp only [if_true]
  by_cases k1 : k = 1
  · subst k1
    have hb' : bytA s p = 1 := by omega
    have t2 := t1.right
    simp only [if_true] at t2
    rw [List.length_append, txtN_len] at t2
    have hz := t1.left.size (by omega)
    rw [List.length_append, txtN_len] at hz
    have b2 := rb_back s d (p + 1 + ((uvB a.size).length + a.size)) 1048576 (by omega) (by omega) (by omega) t2
    rw [if_pos hb', b2]
    simp only [if_true, List.length_append, List.length_cons, List.length_nil, txtN_len]
    congr 2
    omega
  · have hb' : ¬ bytA s p = 1 := by omega
    have hd : d = ⟨#[]⟩ := by
      have : d.size = 0 := by omega
      apply ByteArray.ext
      exact Array.eq_empty_of_size_eq_zero this
    rw [if_neg hb', hb]
    simp only [if_neg k1, List.length_append, List.length_cons, List.length_nil, txtN_len, hd]
    congr 2
    omega
theorem rdWs_back (s : ByteArray) : ∀ (vs : List W3) (p : Nat), (∀ v ∈ vs, mayW v = true) → p ≤ s.size → HasAt s p (vs.flatMap encWr) → rdWs s vs.length p = some (vs, p + (vs.flatMap encWr).length)
  | [], p, _, _, _ => by simp [rdWs]
  | v :: r, p, hm, hp, h => by
    rw [List.flatMap_cons] at h ⊢
    have h1 := rdWr_back s p v (hm v (by simp)) hp h.left
    have h2 := rdWs_back s r (p + (encWr v).length) (fun x hx => hm x (by simp [hx])) (h.left.size hp) h.right
    rw [List.length_cons]
    unfold rdWs
    rw [h1]
    simp only [h2]
    rw [List.length_append, Nat.add_assoc]
theorem mayC_all {st : Int} {vs : List W3} (h : mayC st vs = true) : ∀ v ∈ vs, mayW v = true := by
  intro v hv
  obtain ⟨i, hi, rfl⟩ := List.getElem_of_mem hv
  exact okAll_get (mayC_len h).2.2 i hi
/-- A commit's bytes at the front of a text are read as that commit, if nothing stands behind. -/
theorem rdCo_back (s : ByteArray) (st : Int) (vs : List W3) (hm : mayC st vs = true) (h : HasAt s 0 (encCo st vs)) : rdCo s = if (encCo st vs).length = s.size then some (st, vs) else none := by
  obtain ⟨⟨s1, s2⟩, ⟨n1, n2⟩, ho⟩ := mayC_len hm
  obtain ⟨t, rfl⟩ := Int.eq_ofNat_of_zero_le (by omega : 0 ≤ st)
  unfold encCo at h ⊢
  have r1 := ru_back0 s 0 t h.left.left (by omega)
  have h2 := h.left.right
  rw [Nat.zero_add] at h2
  have r2 := ru_back0 s _ vs.length h2 (by omega)
  have h3 := h.right
  rw [Nat.zero_add] at h3
  have hz := h.left.size (Nat.zero_le _)
  rw [Nat.zero_add] at hz
  have r3 := rdWs_back s vs _ (mayC_all hm) hz h3
  rw [List.length_append] at r3
  unfold rdCo
  rw [r1]
  simp only [if_true]
  rw [r2]
  simp only [r3]
  rw [if_pos ⟨trivial, n2⟩]
  simp only [List.length_append]
  by_cases e : (uvB t).length + (uvB vs.length).length + (vs.flatMap encWr).length = s.size
  · rw [if_pos ⟨e, hm⟩, if_pos e]
  · rw [if_neg (fun x => e x.1), if_neg e]
theorem rdWr_form (s : ByteArray) (p q : Nat) (v : W3) (h : rdWr s p = some (v, q)) : HasAt s p (encWr v) ∧ q = p + (encWr v).length ∧ q ≤ s.size := by
  unfold rdWr at h
  split at h
  · rename_i c0
    have hb : bytA s p = (s[p].toNat : Int) := by unfold bytA; rw [dif_pos c0]
    have h256 := s[p].toNat_lt
    split at h
    · rename_i c1
      obtain ⟨f1, f2, f3, f4⟩ := rb_form s (p + 1) 1048576 c1
      split at h
      · rename_i c2
        split at h
        · rename_i c3
          obtain ⟨g1, g2, g3, g4⟩ := rb_form s _ 1048576 c3
          simp only [Option.some.injEq, Prod.mk.injEq] at h
          obtain ⟨rfl, rfl⟩ := h
          unfold encWr
          simp only [if_true]
          rw [List.append_assoc]
          have hcat := HasAt.append f1 (by rw [List.length_append, txtN_len, ← f2]; exact g1)
          refine ⟨HasAt.cons c0 (by rw [← hb, c2]; rfl) hcat, ?_, g4⟩
          · simp only [List.length_append, List.length_cons, List.length_nil, txtN_len]; omega
        · cases h
      · rename_i c2
        simp only [Option.some.injEq, Prod.mk.injEq] at h
        obtain ⟨rfl, rfl⟩ := h
        unfold encWr
        simp only [if_neg c2, List.append_nil]
        refine ⟨HasAt.cons c0 (by rw [hb]; omega) f1, ?_, f4⟩
        simp only [List.length_append, List.length_cons, List.length_nil, txtN_len]; omega
    · cases h
  · cases h
theorem rdWs_form (s : ByteArray) : ∀ (n p q : Nat) (vs : List W3), p ≤ s.size → rdWs s n p = some (vs, q) → HasAt s p (vs.flatMap encWr) ∧ q = p + (vs.flatMap encWr).length ∧ vs.length = n ∧ q ≤ s.size
  | 0, p, q, vs, hp, h => by
    simp only [rdWs, Option.some.injEq, Prod.mk.injEq] at h
    obtain ⟨rfl, rfl⟩ := h
    exact ⟨HasAt.nil _ _, by simp, rfl, hp⟩
  | n + 1, p, q, vs, hp, h => by
    unfold rdWs at h
    split at h
    · cases h
    · rename_i v q1 e1
      obtain ⟨f1, f2, f3⟩ := rdWr_form s p q1 v e1
      split at h
      · cases h
      · rename_i l r e2
        simp only [Option.some.injEq, Prod.mk.injEq] at h
        obtain ⟨rfl, rfl⟩ := h
        obtain ⟨g1, g2, g3, g4⟩ := rdWs_form s n q1 r l f3 e2
        rw [List.flatMap_cons]
        refine ⟨HasAt.append f1 (by rw [← f2]; exact g1), by rw [List.length_append]; omega, by rw [List.length_cons, g3], g4⟩
/-- What is read as a commit has that commit's bytes, and it may be. -/
theorem rdCo_form (s : ByteArray) (st : Int) (vs : List W3) (h : rdCo s = some (st, vs)) : s = strOfNums (encCo st vs) ∧ mayC st vs = true := by
  unfold rdCo at h
  split at h
  · rename_i c0
    split at h
    · rename_i c1
      split at h
      · cases h
      · rename_i l r e
        split at h
        · rename_i c2
          simp only [Option.some.injEq, Prod.mk.injEq] at h
          obtain ⟨rfl, rfl⟩ := h
          obtain ⟨f1, f2⟩ := ru_form0H s 0 (ruV s 0).1 (ruV s 0).2.1 (by rw [← c0])
          obtain ⟨g1, g2⟩ := ru_form0H s (ruV s 0).2.1 (ruV s (ruV s 0).2.1).1 (ruV s (ruV s 0).2.1).2.1 (by rw [← c1.1])
          have b1 := (ruV_bound s (ruV s 0).2.1).2.2.2.2 c1.1
          obtain ⟨k1, k2, k3, k4⟩ := rdWs_form s _ _ _ _ b1 e
          refine ⟨has_whole s _ ?_ ?_, c2.2⟩
          · unfold encCo
            refine HasAt.append (HasAt.append f1 ?_) ?_
            · rw [Nat.zero_add, ← f2, k3]; exact g1
            · rw [Nat.zero_add, List.length_append, ← f2, k3, ← g2]; exact k1
          · unfold encCo
            rw [List.length_append, List.length_append, ← f2, k3, ← g2]
            omega
        · cases h
    · cases h
  · cases h
end Go.Proofs.Ytmolfemcciljjaa
