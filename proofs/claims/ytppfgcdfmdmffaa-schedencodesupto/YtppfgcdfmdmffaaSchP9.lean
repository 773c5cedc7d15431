import Derived.Test.YtppfgcdfmdmffaaSchP8
import Derived.Laws.AppendOwnNone
namespace Go.Proofs.Ytppfgcdfmdmffaa
open Go.ChangeShapes Go.WideShapes Go.ChangeAt Go.RowKit
set_option linter.unusedVariables false

/-- Are these picks such as a schedule holds? -/
def okP : List (Int × Int × Int) → Bool
  | [] => true
  | p :: r => !(boL p r.isEmpty).isEmpty && okP r
theorem one_kind (b : Nat) : (one b).1 ≠ 2 ∧ 0 ≤ (one b).1 ∧ (one b).1 ≤ 6 := by
  unfold one
  (repeat' split) <;> simp
theorem dL_kinds : ∀ (n : Nat) (l : List UInt8), l.length ≤ n → ∀ p ∈ dL l, 0 ≤ p.1 ∧ p.1 ≤ 6
  | _, [], _, p, hp => by simp [dL] at hp
  | _, [b], _, p, hp => by
    simp [dL] at hp
    rw [hp]; exact (one_kind _).2
  | n + 1, b :: c :: r, h, p, hp => by
    simp only [List.length_cons] at h
    by_cases h1 : b.toNat / 32 = 1
    · have hd : dL (b :: c :: r) = (2, ((b.toNat % 32 : Nat) : Int), ((c.toNat + 1 : Nat) : Int)) :: dL r := by simp [dL, h1]
      rw [hd] at hp
      rcases List.mem_cons.1 hp with e | e
      · rw [e]; exact ⟨by simp, by simp⟩
      · exact dL_kinds n r (by omega) p e
    · have hd : dL (b :: c :: r) = one b.toNat :: dL (c :: r) := by simp [dL, h1]
      rw [hd] at hp
      rcases List.mem_cons.1 hp with e | e
      · rw [e]; exact (one_kind _).2
      · exact dL_kinds n (c :: r) (by simp; omega) p e
/-- Bytes as letters. -/
def kb (l : List Int) : List UInt8 := l.map fun x => UInt8.ofNat x.toNat
theorem kb_str (l : List Int) : (strOfNums l).data.toList = kb l := rfl
theorem kb_cons (x : Int) (l : List Int) : kb (x :: l) = UInt8.ofNat x.toNat :: kb l := rfl
theorem u8_nat (x : Int) (h0 : 0 ≤ x) (h1 : x < 256) : (UInt8.ofNat x.toNat).toNat = x.toNat := by
  rw [UInt8.toNat_ofNat']; omega
/-- One byte ahead. -/
theorem dL_one (b : UInt8) (l : List UInt8) (h : b.toNat / 32 ≠ 1 ∨ l = []) : dL (b :: l) = one b.toNat :: dL l := by
  match l, h with
  | [], _ => rfl
  | c :: r, h => rcases h with h | h
                 · simp [dL, h]
                 · simp at h
theorem dL_two (b c : UInt8) (l : List UInt8) (h : b.toNat / 32 = 1) : dL (b :: c :: l) = (2, ((b.toNat % 32 : Nat) : Int), ((c.toNat + 1 : Nat) : Int)) :: dL l := by simp [dL, h]
theorem kb_nil (l : List Int) : kb l = [] ↔ l = [] := by simp [kb]
/-- The one-byte kinds: what the head is read as. -/
theorem head_one (b : Nat) (hb : b < 256) (l : List UInt8) (p : Int × Int × Int) (r : List (Int × Int × Int)) (hk : p.1 ≠ 2) : dL (UInt8.ofNat b :: l) = p :: r ↔ (one b = p ∧ (b / 32 ≠ 1 ∨ l = []) ∧ dL l = r) := by
  have e : (UInt8.ofNat b).toNat = b := by rw [UInt8.toNat_ofNat']; omega
  by_cases h : b / 32 ≠ 1 ∨ l = []
  · rw [dL_one _ _ (by rw [e]; exact h), e]
    simp only [List.cons.injEq]
    constructor
    · rintro ⟨a, c⟩; exact ⟨a, h, c⟩
    · rintro ⟨a, _, c⟩; exact ⟨a, c⟩
  · constructor
    · intro hd
      match l with
      | [] => exact absurd (.inr rfl) h
      | c :: l' =>
        have h1 : b / 32 = 1 := by
          rcases Nat.decEq (b / 32) 1 with hn | hy
          · exact absurd (.inl hn) h
          · exact hy
        rw [dL_two _ c l' (by rw [e]; exact h1)] at hd
        simp only [List.cons.injEq] at hd
        exact absurd (by rw [← hd.1]) hk
    · rintro ⟨_, h2, _⟩; exact absurd h2 h
/-- All bytes of the reference. -/
def boA : List (Int × Int × Int) → List Int
  | [] => []
  | p :: r => boL p r.isEmpty ++ boA r
theorem bo_dr (p : Int × Int × Int) (last : Bool) (h : boL p last ≠ []) : boL p last = drP p := by
  obtain ⟨k, i, n⟩ := p
  by_cases k1 : k = 1
  · subst k1
    by_cases c : 0 ≤ i ∧ i ≤ 31 ∧ n = 1
    · show (if 0 ≤ i ∧ i ≤ 31 ∧ n = 1 then [i] else []) = [i % 256]
      rw [if_pos c, show i % 256 = i by omega]
    · exact absurd (show (if 0 ≤ i ∧ i ≤ 31 ∧ n = 1 then [i] else []) = [] from if_neg c) h
  by_cases k2 : k = 2
  · subst k2
    by_cases c : 0 ≤ i ∧ i ≤ 31 ∧ 1 ≤ n ∧ n ≤ 256
    · show (if 0 ≤ i ∧ i ≤ 31 ∧ 1 ≤ n ∧ n ≤ 256 then [32 + i, n - 1] else []) = [(32 + i) % 256, (n - 1) % 256]
      rw [if_pos c, show (32 + i) % 256 = 32 + i by omega, show (n - 1) % 256 = n - 1 by omega]
    · exact absurd (show (if 0 ≤ i ∧ i ≤ 31 ∧ 1 ≤ n ∧ n ≤ 256 then [32 + i, n - 1] else []) = [] from if_neg c) h
  by_cases k3 : k = 3
  · subst k3
    by_cases c : 0 ≤ i ∧ i ≤ 31 ∧ n = 1
    · show (if 0 ≤ i ∧ i ≤ 31 ∧ n = 1 then [64 + i] else []) = [(64 + i) % 256]
      rw [if_pos c, show (64 + i) % 256 = 64 + i by omega]
    · exact absurd (show (if 0 ≤ i ∧ i ≤ 31 ∧ n = 1 then [64 + i] else []) = [] from if_neg c) h
  by_cases k4 : k = 4
  · subst k4
    by_cases c : i = 0 ∧ 1 ≤ n ∧ n ≤ 32
    · show (if i = 0 ∧ 1 ≤ n ∧ n ≤ 32 then [96 + n - 1] else []) = [(96 + (n - 1)) % 256]
      rw [if_pos c, show (96 + (n - 1)) % 256 = 96 + n - 1 by omega]
    · exact absurd (show (if i = 0 ∧ 1 ≤ n ∧ n ≤ 32 then [96 + n - 1] else []) = [] from if_neg c) h
  by_cases k5 : k = 5
  · subst k5
    by_cases c : 0 ≤ i ∧ i ≤ 31 ∧ n = 1
    · show (if 0 ≤ i ∧ i ≤ 31 ∧ n = 1 then [128 + i] else []) = [(128 + i) % 256]
      rw [if_pos c, show (128 + i) % 256 = 128 + i by omega]
    · exact absurd (show (if 0 ≤ i ∧ i ≤ 31 ∧ n = 1 then [128 + i] else []) = [] from if_neg c) h
  by_cases k6 : k = 6
  · subst k6
    by_cases c : i = 0 ∧ n = 0
    · show (if i = 0 ∧ n = 0 then ([160] : List Int) else []) = [160]
      rw [if_pos c]
    · exact absurd (show (if i = 0 ∧ n = 0 then ([160] : List Int) else []) = [] from if_neg c) h
  by_cases k0 : k = 0
  · subst k0
    have hd : drP (0, i, n) = [n % 256] := rfl
    have hb : boL (0, i, n) last = if i = 0 ∧ 161 ≤ n ∧ n ≤ 255 then [n] else if i = 0 ∧ 32 ≤ n ∧ n ≤ 63 ∧ last = true then [n] else [] := rfl
    rw [hb] at h ⊢
    rw [hd]
    clear hb hd
    by_cases c : i = 0 ∧ 161 ≤ n ∧ n ≤ 255
    · rw [if_pos c, show n % 256 = n by omega]
    · rw [if_neg c] at h ⊢
      by_cases d : i = 0 ∧ 32 ≤ n ∧ n ≤ 63 ∧ last = true
      · rw [if_pos d, show n % 256 = n by omega]
      · rw [if_neg d] at h; exact absurd rfl h
  · exfalso
    apply h
    unfold boL
    simp only
    rw [if_neg k1, if_neg k2, if_neg k3, if_neg k4, if_neg k5, if_neg k6, if_neg k0]
set_option maxHeartbeats 3200000 in
theorem one_eq (b : Nat) (k i n : Int) : one b = (k, i, n) ↔ (b / 32 = 0 ∧ k = 1 ∧ i = ((b % 32 : Nat) : Int) ∧ n = 1) ∨ (b / 32 = 2 ∧ k = 3 ∧ i = ((b % 32 : Nat) : Int) ∧ n = 1) ∨ (b / 32 = 3 ∧ k = 4 ∧ i = 0 ∧ n = ((b % 32 + 1 : Nat) : Int)) ∨ (b / 32 = 4 ∧ k = 5 ∧ i = ((b % 32 : Nat) : Int) ∧ n = 1) ∨ (b = 160 ∧ k = 6 ∧ i = 0 ∧ n = 0) ∨ (b / 32 ≠ 0 ∧ b / 32 ≠ 2 ∧ b / 32 ≠ 3 ∧ b / 32 ≠ 4 ∧ b ≠ 160 ∧ k = 0 ∧ i = 0 ∧ n = (b : Int)) := by
  unfold one
  by_cases h0 : b / 32 = 0
  · rw [if_pos h0]; simp only [Prod.mk.injEq]; omega
  · rw [if_neg h0]
    by_cases h2 : b / 32 = 2
    · rw [if_pos h2]; simp only [Prod.mk.injEq]; omega
    · rw [if_neg h2]
      by_cases h3 : b / 32 = 3
      · rw [if_pos h3]; simp only [Prod.mk.injEq]; omega
      · rw [if_neg h3]
        by_cases h4 : b / 32 = 4
        · rw [if_pos h4]; simp only [Prod.mk.injEq]; omega
        · rw [if_neg h4]
          by_cases h5 : b = 160
          · rw [if_pos h5]; simp only [Prod.mk.injEq]; omega
          · rw [if_neg h5]; simp only [Prod.mk.injEq]; omega
set_option maxHeartbeats 800000 in
theorem head_of (x : Int) (E : List Int) (p : Int × Int × Int) (r : List (Int × Int × Int)) (hk : p.1 ≠ 2) (h0 : 0 ≤ x) (h1 : x < 256) : dL (kb ([x] ++ E)) = p :: r ↔ (one x.toNat = p ∧ (x.toNat / 32 ≠ 1 ∨ E = []) ∧ dL (kb E) = r) := by
  have := head_one x.toNat (by omega) (kb E) p r hk
  rw [List.singleton_append, kb_cons, this, kb_nil]
set_option maxHeartbeats 12800000 in
theorem core (p : Int × Int × Int) (r : List (Int × Int × Int)) : dL (kb (drP p ++ encB r)) = p :: r ↔ (boL p r.isEmpty ≠ [] ∧ dL (kb (encB r)) = r) := by
  obtain ⟨k, i, n⟩ := p
  have hne : ∀ (P : Prop) [Decidable P] (l : List Int), l ≠ [] → ((if P then l else []) ≠ [] ↔ P) := fun P _ l hl => by
    by_cases c : P
    · rw [if_pos c]; exact ⟨fun _ => c, fun _ => hl⟩
    · rw [if_neg c]; exact ⟨fun h => absurd rfl h, fun h => absurd h c⟩
  by_cases k1 : k = 1
  · subst k1
    have hd : drP (1, i, n) = [i % 256] := rfl
    have hb : boL (1, i, n) r.isEmpty = if 0 ≤ i ∧ i ≤ 31 ∧ n = 1 then [i] else [] := rfl
    rw [hd, hb, hne _ _ (by simp), head_of (i % 256) _ _ _ (by simp) (by omega) (by omega), one_eq]
    constructor
    · rintro ⟨h1, h2, h3⟩; exact ⟨by omega, h3⟩
    · rintro ⟨h1, h3⟩; exact ⟨by omega, .inl (by omega), h3⟩
  by_cases k2 : k = 2
  · subst k2
    have hd : drP (2, i, n) = [(32 + i) % 256, (n - 1) % 256] := rfl
    have hb : boL (2, i, n) r.isEmpty = if 0 ≤ i ∧ i ≤ 31 ∧ 1 ≤ n ∧ n ≤ 256 then [32 + i, n - 1] else [] := rfl
    have hk : kb ([(32 + i) % 256, (n - 1) % 256] ++ encB r) = UInt8.ofNat ((32 + i) % 256).toNat :: UInt8.ofNat ((n - 1) % 256).toNat :: kb (encB r) := rfl
    have e1 := u8_nat ((32 + i) % 256) (by omega) (by omega)
    have e2 := u8_nat ((n - 1) % 256) (by omega) (by omega)
    rw [hd, hb, hne _ _ (by simp), hk]
    by_cases h1 : ((32 + i) % 256).toNat / 32 = 1
    · rw [dL_two _ _ _ (by rw [e1]; exact h1), e1, e2]
      simp only [List.cons.injEq, Prod.mk.injEq, true_and]
      constructor
      · rintro ⟨⟨a, b⟩, c⟩; exact ⟨by omega, c⟩
      · rintro ⟨a, c⟩; exact ⟨⟨by omega, by omega⟩, c⟩
    · rw [dL_one _ _ (.inl (by rw [e1]; exact h1)), e1]
      constructor
      · intro h
        simp only [List.cons.injEq] at h
        exact absurd (by rw [h.1]) (one_kind ((32 + i) % 256).toNat).1
      · rintro ⟨a, c⟩; exfalso; omega
  by_cases k3 : k = 3
  · subst k3
    have hd : drP (3, i, n) = [(64 + i) % 256] := rfl
    have hb : boL (3, i, n) r.isEmpty = if 0 ≤ i ∧ i ≤ 31 ∧ n = 1 then [64 + i] else [] := rfl
    rw [hd, hb, hne _ _ (by simp), head_of ((64 + i) % 256) _ _ _ (by simp) (by omega) (by omega), one_eq]
    constructor
    · rintro ⟨h1, h2, h3⟩; exact ⟨by omega, h3⟩
    · rintro ⟨h1, h3⟩; exact ⟨by omega, .inl (by omega), h3⟩
  by_cases k4 : k = 4
  · subst k4
    have hd : drP (4, i, n) = [(96 + (n - 1)) % 256] := rfl
    have hb : boL (4, i, n) r.isEmpty = if i = 0 ∧ 1 ≤ n ∧ n ≤ 32 then [96 + n - 1] else [] := rfl
    rw [hd, hb, hne _ _ (by simp), head_of ((96 + (n - 1)) % 256) _ _ _ (by simp) (by omega) (by omega), one_eq]
    constructor
    · rintro ⟨h1, h2, h3⟩; exact ⟨by omega, h3⟩
    · rintro ⟨h1, h3⟩; exact ⟨by omega, .inl (by omega), h3⟩
  by_cases k5 : k = 5
  · subst k5
    have hd : drP (5, i, n) = [(128 + i) % 256] := rfl
    have hb : boL (5, i, n) r.isEmpty = if 0 ≤ i ∧ i ≤ 31 ∧ n = 1 then [128 + i] else [] := rfl
    rw [hd, hb, hne _ _ (by simp), head_of ((128 + i) % 256) _ _ _ (by simp) (by omega) (by omega), one_eq]
    constructor
    · rintro ⟨h1, h2, h3⟩; exact ⟨by omega, h3⟩
    · rintro ⟨h1, h3⟩; exact ⟨by omega, .inl (by omega), h3⟩
  by_cases k6 : k = 6
  · subst k6
    have hd : drP (6, i, n) = [160] := rfl
    have hb : boL (6, i, n) r.isEmpty = if i = 0 ∧ n = 0 then [160] else [] := rfl
    rw [hd, hb, hne _ _ (by simp), head_of 160 _ _ _ (by simp) (by omega) (by omega), one_eq]
    constructor
    · rintro ⟨h1, h2, h3⟩; exact ⟨by omega, h3⟩
    · rintro ⟨h1, h3⟩; exact ⟨by omega, .inl (by omega), h3⟩
  by_cases k0 : k = 0
  · subst k0
    have hd : drP (0, i, n) = [n % 256] := rfl
    have hb : boL (0, i, n) r.isEmpty = if i = 0 ∧ 161 ≤ n ∧ n ≤ 255 then [n] else if i = 0 ∧ 32 ≤ n ∧ n ≤ 63 ∧ r.isEmpty = true then [n] else [] := rfl
    rw [hd, hb, head_of (n % 256) _ _ _ (by simp) (by omega) (by omega), one_eq]
    constructor
    · rintro ⟨h1, h2, h3⟩
      refine ⟨?_, h3⟩
      by_cases c : i = 0 ∧ 161 ≤ n ∧ n ≤ 255
      · rw [if_pos c]; simp
      · have hE : encB r = [] := by
          rcases h2 with h2 | h2
          · exfalso; omega
          · exact h2
        have hr : r = [] := by rw [← h3, hE]; rfl
        rw [if_neg c, if_pos ⟨by omega, by omega, by omega, by rw [hr]; rfl⟩]; simp
    · rintro ⟨h1, h3⟩
      by_cases c : i = 0 ∧ 161 ≤ n ∧ n ≤ 255
      · exact ⟨by omega, .inl (by omega), h3⟩
      · rw [if_neg c] at h1
        by_cases d : i = 0 ∧ 32 ≤ n ∧ n ≤ 63 ∧ r.isEmpty = true
        · have hr : r = [] := by simpa using d.2.2.2
          exact ⟨by omega, .inr (by rw [hr]; rfl), h3⟩
        · rw [if_neg d] at h1; exact absurd rfl h1
  · constructor
    · intro h
      exfalso
      have := dL_kinds _ _ (Nat.le_refl _) (k, i, n) (by rw [h]; simp)
      simp only at this
      omega
    · rintro ⟨h, _⟩
      exfalso
      apply h
      unfold boL
      simp only
      rw [if_neg k1, if_neg k2, if_neg k3, if_neg k4, if_neg k5, if_neg k6, if_neg k0]
theorem enc_ok : ∀ vs : List (Int × Int × Int), (dL (kb (encB vs)) = vs ↔ okP vs = true) ∧ (okP vs = true → encB vs = boA vs)
  | [] => by simp [encB, kb, dL, okP, boA]
  | p :: r => by
    have e : encB (p :: r) = drP p ++ encB r := by unfold encB; rw [List.flatMap_cons]
    obtain ⟨i1, i2⟩ := enc_ok r
    rw [e, core]
    constructor
    · show _ ↔ (!(boL p r.isEmpty).isEmpty && okP r) = true
      rw [Bool.and_eq_true, i1]
      simp
    · intro h
      have h : (!(boL p r.isEmpty).isEmpty && okP r) = true := h
      rw [Bool.and_eq_true] at h
      have hb : boL p r.isEmpty ≠ [] := by simpa using h.1
      show _ = boL p r.isEmpty ++ boA r
      rw [bo_dr p _ hb, i2 h.2]
/-- The reference's answer is the program's. -/
theorem encA_ok (vs : List (Int × Int × Int)) : encA vs = if okP vs = true then .tuple #[.string (strOfNums (boA vs)), .int .i64 0] else .tuple #[.string ⟨#[]⟩, .int .i64 33] := by
  obtain ⟨h1, h2⟩ := enc_ok vs
  unfold encA
  rw [kb_str]
  by_cases c : okP vs = true
  · rw [if_pos c, if_pos (h1.2 c), h2 c]
  · rw [if_neg c, if_neg (fun h => c (h1.1 h))]
end Go.Proofs.Ytppfgcdfmdmffaa
