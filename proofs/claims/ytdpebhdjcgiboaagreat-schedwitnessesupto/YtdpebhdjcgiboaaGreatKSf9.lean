import Derived.Test.YtdpebhdjcgiboaaGreatKSf7
namespace Go.Proofs.YtdpebhdjcgiboaaGreat
open Go.ChangeShapes Go.WideShapes Go.ChangeAt Go.RowKit Go.MuLone Go.RwLone
set_option linter.unusedVariables false
set_option maxRecDepth 100000
set_option maxHeartbeats 3200000
/-- k workers from t on, a step each. -/
def roundN (M : Mc) : Nat → Nat → Nat → (Hp × M.σ) → Bool × Nat × (Hp × M.σ)
  | 0, t, left, a => (true, left, a)
  | k + 1, t, left, a => if (runP M (t : Int) left 1 a).1 then roundN M k (t + 1) (runP M (t : Int) left 1 a).2.1 (runP M (t : Int) left 1 a).2.2 else runP M (t : Int) left 1 a
def roundsF (M : Mc) : Nat → Int → Nat → (Hp × M.σ) → Bool × Nat × (Hp × M.σ)
  | 0, n, left, a => (true, left, a)
  | k + 1, n, left, a => if n ≤ 0 ∨ idleP a.1 = true then (true, left, a) else if (roundN M a.1.q.length 0 left a).1 then roundsF M k (n - 1) (roundN M a.1.q.length 0 left a).2.1 (roundN M a.1.q.length 0 left a).2.2 else roundN M a.1.q.length 0 left a
/-- Up to n rounds. -/
def roundsA (M : Mc) (n : Int) (left : Nat) (a : Hp × M.σ) : Bool × Nat × (Hp × M.σ) := roundsF M (left + 1) n left a
theorem runP_one {M : Mc} {x : Int} {left : Nat} {a : Hp × M.σ} : runP M x left 1 a = if pendP a.1 x = 0 then (true, left, a) else match left with | 0 => (false, 0, a) | l + 1 => (true, l, (stepP M a x.toNat).1) := by
  by_cases h : pendP a.1 x = 0
  · rw [if_pos h, runP_end (.inr h)]
  · rw [if_neg h]
    cases left with
    | zero => simp only [runP]; rw [if_neg (fun e => e.elim (fun e => by omega) h)]
    | succ l =>
      simp only [runP]
      rw [if_neg (fun e => e.elim (fun e => by omega) h)]
      exact runP_end (.inl (by omega))
theorem roundN_le {M : Mc} : ∀ (k t left : Nat) (a : Hp × M.σ), (roundN M k t left a).2.1 ≤ left
  | 0, t, left, a => Nat.le_refl _
  | k + 1, t, left, a => by
    have h1 : (runP M (t : Int) left 1 a).2.1 ≤ left := by
      rw [runP_one]
      split
      · exact Nat.le_refl _
      · cases left <;> simp
    unfold roundN
    split
    · exact Nat.le_trans (roundN_le k (t + 1) _ _) h1
    · exact h1
theorem roundN_some {M : Mc} : ∀ (k t left : Nat) (a : Hp × M.σ), (∃ j, t ≤ j ∧ j < t + k ∧ ¬ pendP a.1 (j : Int) = 0) → (roundN M k t left a).1 = true → (roundN M k t left a).2.1 < left
  | 0, t, left, a => by rintro ⟨j, h1, h2, _⟩; omega
  | k + 1, t, left, a => by
    rintro ⟨j, h1, h2, h3⟩ ht
    unfold roundN at ht ⊢
    by_cases hp : pendP a.1 (t : Int) = 0
    · have e : runP M (t : Int) left 1 a = (true, left, a) := by rw [runP_one, if_pos hp]
      rw [e] at ht ⊢
      exact roundN_some k (t + 1) left a ⟨j, (Nat.lt_or_eq_of_le h1).elim (fun e => e) (fun e => by subst e; exact absurd hp h3), by omega, h3⟩ ht
    · cases left with
      | zero =>
        have e : runP M (t : Int) 0 1 a = (false, 0, a) := by rw [runP_one, if_neg hp]
        rw [e] at ht
        cases ht
      | succ l =>
        have e : runP M (t : Int) (l + 1) 1 a = (true, l, (stepP M a t).1) := by rw [runP_one, if_neg hp]; rfl
        rw [e]
        exact Nat.lt_succ_of_le (roundN_le k (t + 1) l _)
theorem idle_some {h : Hp} (hi : ¬ idleP h = true) : ∃ j, 0 ≤ j ∧ j < 0 + h.q.length ∧ ¬ pendP h (j : Int) = 0 := by
  have : ∃ l ∈ h.q, ¬ l.isEmpty = true := by
    have h2 : idleP h = false := by simpa using hi
    unfold idleP at h2
    rw [List.all_eq_false] at h2
    exact h2
  obtain ⟨l, hl, hn⟩ := this
  obtain ⟨j, hj, rfl⟩ := List.getElem_of_mem hl
  refine ⟨j, Nat.zero_le _, by omega, fun e => hn ?_⟩
  unfold pendP at e
  rw [if_neg (by omega)] at e
  have e2 : ((j : Int)).toNat = j := by omega
  rw [e2, List.getElem?_eq_getElem hj] at e
  have : h.q[j] = [] := List.eq_nil_of_length_eq_zero e
  rw [this]; rfl
theorem rounds_fuel {M : Mc} : ∀ (b left k k' : Nat) (n : Int) (a : Hp × M.σ), left ≤ b → left < k → left < k' → roundsF M k n left a = roundsF M k' n left a := by
  intro b
  induction b with
  | zero =>
    intro left k k' n a hb hk hk'
    obtain ⟨k, rfl⟩ : ∃ m, k = m + 1 := ⟨k - 1, by omega⟩
    obtain ⟨k', rfl⟩ : ∃ m, k' = m + 1 := ⟨k' - 1, by omega⟩
    simp only [roundsF]
    by_cases h : n ≤ 0 ∨ idleP a.1 = true
    · rw [if_pos h, if_pos h]
    · rw [if_neg h, if_neg h]
      by_cases hr : (roundN M a.1.q.length 0 left a).1 = true
      · have := roundN_some a.1.q.length 0 left a (idle_some (fun e => h (.inr e))) hr
        omega
      · rw [if_neg hr, if_neg hr]
  | succ b ih =>
    intro left k k' n a hb hk hk'
    obtain ⟨k, rfl⟩ : ∃ m, k = m + 1 := ⟨k - 1, by omega⟩
    obtain ⟨k', rfl⟩ : ∃ m, k' = m + 1 := ⟨k' - 1, by omega⟩
    simp only [roundsF]
    by_cases h : n ≤ 0 ∨ idleP a.1 = true
    · rw [if_pos h, if_pos h]
    · rw [if_neg h, if_neg h]
      by_cases hr : (roundN M a.1.q.length 0 left a).1 = true
      · have := roundN_some a.1.q.length 0 left a (idle_some (fun e => h (.inr e))) hr
        rw [if_pos hr, if_pos hr]
        exact ih _ k k' (n - 1) _ (by omega) (by omega) (by omega)
      · rw [if_neg hr, if_neg hr]
theorem roundsA_end {M : Mc} {n : Int} {left : Nat} {a : Hp × M.σ} (h : n ≤ 0 ∨ idleP a.1 = true) : roundsA M n left a = (true, left, a) := by
  unfold roundsA; simp only [roundsF, if_pos h]
theorem roundsA_no {M : Mc} {n : Int} {left : Nat} {a : Hp × M.σ} (h : ¬ (n ≤ 0 ∨ idleP a.1 = true)) (hr : ¬ (roundN M a.1.q.length 0 left a).1 = true) : roundsA M n left a = roundN M a.1.q.length 0 left a := by
  unfold roundsA; simp only [roundsF, if_neg h, if_neg hr]
theorem roundsA_on {M : Mc} {n : Int} {left : Nat} {a : Hp × M.σ} (h : ¬ (n ≤ 0 ∨ idleP a.1 = true)) (hr : (roundN M a.1.q.length 0 left a).1 = true) : roundsA M n left a = roundsA M (n - 1) (roundN M a.1.q.length 0 left a).2.1 (roundN M a.1.q.length 0 left a).2.2 := by
  have := roundN_some a.1.q.length 0 left a (idle_some (fun e => h (.inr e))) hr
  unfold roundsA
  rw [roundsF, if_neg h, if_pos hr]
  exact rounds_fuel left _ _ _ _ _ (by omega) (by omega) (by omega)
/-- A pick, played. -/
def pickP (M : Mc) (p : Int × Int × Int) (lf : Nat) (a : Hp × M.σ) : Bool × Nat × (Hp × M.σ) :=
  if p.1 = 1 then runP M p.2.1 lf 1 a else if p.1 = 2 then runP M p.2.1 lf p.2.2 a else if p.1 = 5 then finA M p.2.1 lf a else if p.1 = 4 then roundsA M p.2.2 lf a else if p.1 = 6 then roundsA M 9223372036854775807 lf a else (true, lf, a)
end Go.Proofs.YtdpebhdjcgiboaaGreat

namespace Go.Proofs.YtdpebhdjcgiboaaGreat
open Go.ChangeShapes Go.WideShapes Go.ChangeAt Go.RowKit Go.MuLone Go.RwLone
set_option linter.unusedVariables false
set_option maxRecDepth 100000
set_option maxHeartbeats 3200000
/-- Picks, played. -/
def playP (M : Mc) : List (Int × Int × Int) → Nat → (Hp × M.σ) → Bool × Nat × (Hp × M.σ)
  | [], l, a => (true, l, a)
  | p :: ps, l, a => if (pickP M p l a).1 then playP M ps (pickP M p l a).2.1 (pickP M p l a).2.2 else pickP M p l a
/-- What Play answers. -/
def retP (b : Bool) (l bd : Nat) : Value := if b then .tuple #[.int .i64 ((bd : Int) - (l : Int)), .int .i64 0] else .tuple #[.int .i64 (bd : Int), .int .i64 34]
/-- A row of picks in sight, in a block that is none of Fb's. -/
def PkR (w : World) (Fb : Nat → Prop) (v : Value) (vs : List (Int × Int × Int)) : Prop :=
  ∃ ao cap, v = .slice ao vs.length cap ∧ vs.length ≤ 140737488355328 ∧ (∀ p ∈ vs, p.2.2 ≤ 9223372036854775807) ∧ ∀ i (hi : i < vs.length), ∃ b off, ao = some ⟨b, off, none⟩ ∧ ¬ Fb b ∧ b < w.heap.size ∧ w.cell? ⟨b, off + i * 3, none⟩ = some (.int .i64 vs[i].1) ∧ w.cell? ⟨b, off + i * 3 + 1, none⟩ = some (.int .i64 vs[i].2.1) ∧ w.cell? ⟨b, off + i * 3 + 2, none⟩ = some (.int .i64 vs[i].2.2)
theorem PkR.keeps {w w' : World} {Fb D : Nat → Prop} {v : Value} {vs : List (Int × Int × Int)} (h : PkR w Fb v vs) (k : Keeps D w w') (hD : ∀ x, D x → Fb x ∨ w.heap.size ≤ x) : PkR w' Fb v vs := by
  obtain ⟨ao, cap, e, h1, h2, h3⟩ := h
  refine ⟨ao, cap, e, h1, h2, fun i hi => ?_⟩
  obtain ⟨b, off, e1, e2, e3, e4, e5, e6⟩ := h3 i hi
  have hn : ¬ D b := fun e => (hD b e).elim e2 (fun e => by omega)
  exact ⟨b, off, e1, e2, Nat.lt_of_lt_of_le e3 k.size, (k.cell (p := ⟨b, off + i * 3, none⟩) e3 hn).trans e4, (k.cell (p := ⟨b, off + i * 3 + 1, none⟩) e3 hn).trans e5, (k.cell (p := ⟨b, off + i * 3 + 2, none⟩) e3 hn).trans e6⟩
abbrev plW2 (w : World) (hb : Nat) (bd : Nat) : World := w.alloc (.cells #[.pointer (some ⟨hb, 0, none⟩), .int .i64 (bd : Int)] 114)
end Go.Proofs.YtdpebhdjcgiboaaGreat
