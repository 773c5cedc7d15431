import Derived.Test.YtfofionocnbohaaDoorLkQ
namespace Go.Proofs.YtfofionocnbohaaDoor
set_option linter.unusedVariables false
set_option maxRecDepth 100000
/-- Which beginnings of a text are like a pattern with one character more. -/
def stp (t : List Int) (S : Nat → Bool) (c : Int) : Nat → Bool :=
  if c = 37 then fun i => (List.range (i + 1)).any S
  else fun i => match i with
    | 0 => false
    | i + 1 => S i && (match t[i]? with | some x => c == 95 || c == x | none => false)
/-- Is the text like the pattern? (By the document's table.) -/
def lkA (t p : List Int) : Bool := p.foldl (stp t) (fun i => i == 0) t.length
/-- Does a piece without % stand at the begin of a text? -/
def bgn : List Int → List Int → Bool
  | [], _ => true
  | _ :: _, [] => false
  | c :: p, x :: t => (c == 95 || c == x) && bgn p t
theorem bgn_len : ∀ (p t : List Int), bgn p t = true → p.length ≤ t.length
  | [], _, _ => by simp
  | c :: p, [], h => by simp [bgn] at h
  | c :: p, x :: t, h => by
    simp only [bgn, Bool.and_eq_true] at h
    have := bgn_len p t h.2
    simp; omega
/-- The place behind the first occurrence of a piece from the place k on, or none. -/
def fndF (t p : List Int) : Nat → Nat → Option Nat
  | 0, _ => none
  | n + 1, k => if bgn p (t.drop k) then some (k + p.length) else fndF t p n (k + 1)
def fnd (t p : List Int) : Option Nat := fndF t p (t.length + 1 - p.length) 0
/-- Pieces behind the first one, the last of which ends the text. -/
def grR : List (List Int) → List Int → Bool
  | [], _ => false
  | [l], t => decide (l.length ≤ t.length) && bgn l (t.drop (t.length - l.length))
  | p :: q :: ps, t => match fnd t p with | none => false | some k => grR (q :: ps) (t.drop k)
/-- Is the text like the pieces between the % signs? (As the program looks for them.) -/
def grA : List (List Int) → List Int → Bool
  | [], _ => false
  | [l], t => bgn l t && decide (t.length = l.length)
  | p :: q :: ps, t => bgn p t && grR (q :: ps) (t.drop p.length)
def joinP : List (List Int) → List Int
  | [] => []
  | [l] => l
  | p :: q :: ps => p ++ 37 :: joinP (q :: ps)
theorem any_range (S : Nat → Bool) (n : Nat) : (List.range n).any S = true ↔ ∃ j, j < n ∧ S j = true := by
  rw [List.any_eq_true]
  constructor
  · rintro ⟨x, h1, h2⟩; exact ⟨x, List.mem_range.1 h1, h2⟩
  · rintro ⟨x, h1, h2⟩; exact ⟨x, List.mem_range.2 h1, h2⟩
theorem stp_pct (t : List Int) (S : Nat → Bool) (i : Nat) : stp t S 37 i = true ↔ ∃ j, j ≤ i ∧ S j = true := by
  unfold stp
  rw [if_pos rfl, any_range]
  constructor
  · rintro ⟨j, h1, h2⟩; exact ⟨j, by omega, h2⟩
  · rintro ⟨j, h1, h2⟩; exact ⟨j, by omega, h2⟩
/-- A piece, from the places in S on. -/
theorem fold_piece (t : List Int) : ∀ (p : List Int) (S : Nat → Bool) (i : Nat), (37 : Int) ∉ p → (p.foldl (stp t) S i = true ↔ ∃ j, i = j + p.length ∧ S j = true ∧ bgn p (t.drop j) = true)
  | [], S, i, _ => by
    constructor
    · intro h; exact ⟨i, rfl, h, rfl⟩
    · rintro ⟨j, rfl, h, _⟩; exact h
  | c :: p, S, i, hn => by
    have hc : ¬ c = 37 := fun h => hn (by simp [h])
    have hp : (37 : Int) ∉ p := fun h => hn (by simp [h])
    rw [List.foldl_cons, fold_piece t p _ i hp]
    constructor
    · rintro ⟨j, rfl, h1, h2⟩
      unfold stp at h1
      rw [if_neg hc] at h1
      match j, h1 with
      | j + 1, h1 =>
        simp only [Bool.and_eq_true] at h1
        obtain ⟨h3, h4⟩ := h1
        rcases hx : t[j]? with _ | x
        · rw [hx] at h4; simp at h4
        · rw [hx] at h4
          have hl : j < t.length := by
            rcases Nat.lt_or_ge j t.length with h | h
            · exact h
            · rw [List.getElem?_eq_none h] at hx; cases hx
          have ht : t[j] = x := by rw [List.getElem?_eq_getElem hl] at hx; exact Option.some.inj hx
          refine ⟨j, by simp; omega, h3, ?_⟩
          rw [List.drop_eq_getElem_cons hl, ht, bgn, Bool.and_eq_true]
          exact ⟨h4, h2⟩
    · rintro ⟨j, rfl, h1, h2⟩
      have hl : j < t.length := by
        have := bgn_len _ _ h2
        rw [List.length_drop, List.length_cons] at this
        omega
      rw [List.drop_eq_getElem_cons hl, bgn, Bool.and_eq_true] at h2
      refine ⟨j + 1, by simp; omega, ?_, h2.2⟩
      unfold stp
      rw [if_neg hc]
      simp only [Bool.and_eq_true]
      refine ⟨h1, ?_⟩
      rw [List.getElem?_eq_getElem hl]
      exact h2.1
theorem fndF_iff (t p : List Int) : ∀ (n k r : Nat), fndF t p n k = some r ↔ ∃ j, k ≤ j ∧ j < k + n ∧ r = j + p.length ∧ bgn p (t.drop j) = true ∧ ∀ i, k ≤ i → i < j → bgn p (t.drop i) = false
  | 0, k, r => by
    constructor
    · intro h; cases h
    · rintro ⟨j, h1, h2, _⟩; omega
  | n + 1, k, r => by
    rw [fndF]
    by_cases h : bgn p (t.drop k) = true
    · rw [if_pos h]
      constructor
      · intro e
        exact ⟨k, Nat.le_refl _, by omega, (Option.some.inj e).symm, h, fun i h1 h2 => by omega⟩
      · rintro ⟨j, h1, h2, rfl, h4, h5⟩
        have : j = k := by
          rcases Nat.lt_or_ge k j with h6 | h6
          · have := h5 k (Nat.le_refl _) h6; rw [h] at this; cases this
          · omega
        rw [this]
    · rw [if_neg h, fndF_iff t p n (k + 1) r]
      constructor
      · rintro ⟨j, h1, h2, h3, h4, h5⟩
        refine ⟨j, by omega, by omega, h3, h4, fun i h6 h7 => ?_⟩
        rcases Nat.lt_or_ge k i with h8 | h8
        · exact h5 i (by omega) h7
        · have : i = k := by omega
          rw [this]; simpa using h
      · rintro ⟨j, h1, h2, h3, h4, h5⟩
        have : j ≠ k := by rintro rfl; exact h h4
        exact ⟨j, by omega, by omega, h3, h4, fun i h6 h7 => h5 i (by omega) h7⟩
theorem fnd_some (t p : List Int) (r : Nat) (h : fnd t p = some r) : ∃ j, r = j + p.length ∧ bgn p (t.drop j) = true ∧ j + p.length ≤ t.length ∧ ∀ i, i < j → bgn p (t.drop i) = false := by
  obtain ⟨j, h1, h2, h3, h4, h5⟩ := (fndF_iff t p _ 0 r).1 h
  exact ⟨j, h3, h4, by omega, fun i hi => h5 i (by omega) hi⟩
theorem fnd_none (t p : List Int) (h : fnd t p = none) (j : Nat) (hj : j ≤ t.length) : bgn p (t.drop j) = false := by
  rcases hb : bgn p (t.drop j) with _ | _
  · rfl
  · exfalso
    have hl := bgn_len _ _ hb
    rw [List.length_drop] at hl
    have key : ∀ n k, k ≤ j → j < k + n → ∃ r, fndF t p n k = some r := by
      intro n
      induction n with
      | zero => intro k h1 h2; omega
      | succ n ih =>
        intro k h1 h2
        rw [fndF]
        by_cases hk : bgn p (t.drop k) = true
        · exact ⟨_, if_pos hk⟩
        · rw [if_neg hk]
          have : k ≠ j := by rintro rfl; exact hk hb
          exact ih (k + 1) (by omega) (by omega)
    obtain ⟨r, hr⟩ := key (t.length + 1 - p.length) 0 (by omega) (by omega)
    have h' : fndF t p (t.length + 1 - p.length) 0 = none := h
    rw [h'] at hr
    cases hr
/-- Pieces from the places m on. -/
theorem fold_rest (t : List Int) : ∀ (ps : List (List Int)) (S : Nat → Bool) (m : Nat), (∀ p ∈ ps, (37 : Int) ∉ p) → ps ≠ [] → m ≤ t.length → (∀ i, S i = true ↔ m ≤ i) →
    (joinP ps).foldl (stp t) S t.length = grR ps (t.drop m)
  | [], _, _, _, h, _, _ => absurd rfl h
  | [l], S, m, hn, _, hm, hS => by
    rw [Bool.eq_iff_iff, joinP, fold_piece t l S _ (hn l (by simp)), grR, Bool.and_eq_true, decide_eq_true_eq, List.drop_drop, List.length_drop]
    constructor
    · rintro ⟨j, h1, h2, h3⟩
      have h4 := (hS j).1 h2
      refine ⟨by omega, ?_⟩
      rw [show m + (t.length - m - l.length) = j by omega]
      exact h3
    · rintro ⟨h1, h2⟩
      exact ⟨m + (t.length - m - l.length), by omega, (hS _).2 (by omega), h2⟩
  | p :: q :: ps, S, m, hn, _, hm, hS => by
    rw [joinP, List.foldl_append, List.foldl_cons, grR]
    have hp := hn p (by simp)
    have hn' : ∀ p ∈ q :: ps, (37 : Int) ∉ p := fun r hr => hn r (List.mem_cons_of_mem _ hr)
    rcases hf : fnd (t.drop m) p with _ | r
    · have hno : ∀ i, (stp t (p.foldl (stp t) S) 37) i = false := by
        intro i
        rcases hb : stp t (p.foldl (stp t) S) 37 i with _ | _
        · rfl
        · exfalso
          obtain ⟨j, _, h2⟩ := (stp_pct _ _ _).1 hb
          obtain ⟨k, _, h3, h4⟩ := (fold_piece t p S j hp).1 h2
          have h5 := (hS k).1 h3
          rcases Nat.lt_or_ge t.length k with h6 | h6
          · have h7 := bgn_len _ _ h4
            rw [List.drop_eq_nil_of_le (by omega)] at h4
            have h8 := fnd_none (t.drop m) p hf (t.length - m) (by rw [List.length_drop]; omega)
            rw [List.drop_drop, List.drop_eq_nil_of_le (by omega)] at h8
            rw [h8] at h4; cases h4
          · have h8 := fnd_none (t.drop m) p hf (k - m) (by rw [List.length_drop]; omega)
            rw [List.drop_drop, show m + (k - m) = k by omega] at h8
            rw [h8] at h4; cases h4
      have emp : ∀ (l : List Int) (S : Nat → Bool), (∀ i, S i = false) → ∀ i, l.foldl (stp t) S i = false := by
        intro l
        induction l with
        | nil => intro S h i; exact h i
        | cons c l ih =>
          intro S h i
          rw [List.foldl_cons]
          apply ih
          intro k
          unfold stp
          split
          · rw [List.any_eq_false]; intro x _; rw [h x]; simp
          · match k with
            | 0 => rfl
            | k + 1 => simp only; rw [h k]; rfl
      rw [emp _ _ hno]
    · obtain ⟨j, h1, h2, h3, h4⟩ := fnd_some _ _ _ hf
      rw [List.length_drop] at h3
      simp only
      rw [fold_rest t (q :: ps) (stp t (p.foldl (stp t) S) 37) (m + r) hn' (by simp) (by omega) ?_, List.drop_drop]
      intro i
      rw [stp_pct]
      constructor
      · rintro ⟨k, h5, h6⟩
        obtain ⟨a, h7, h8, h9⟩ := (fold_piece t p S k hp).1 h6
        have h10 := (hS a).1 h8
        rcases Nat.lt_or_ge (a - m) j with h11 | h11
        · have := h4 (a - m) h11
          rw [List.drop_drop, show m + (a - m) = a by omega] at this
          rw [this] at h9; cases h9
        · omega
      · intro h5
        refine ⟨m + r, h5, (fold_piece t p S _ hp).2 ⟨m + j, by omega, (hS _).2 (by omega), ?_⟩⟩
        rw [List.drop_drop] at h2
        exact h2
/-- Looking for the pieces is as the document's table. -/
theorem gr_all (t : List Int) (ps : List (List Int)) (hn : ∀ p ∈ ps, (37 : Int) ∉ p) (h0 : ps ≠ []) : lkA t (joinP ps) = grA ps t := by
  match ps, h0 with
  | [l], _ =>
    unfold lkA
    rw [Bool.eq_iff_iff, joinP, fold_piece t l _ _ (hn l (by simp)), grA, Bool.and_eq_true, decide_eq_true_eq]
    constructor
    · rintro ⟨j, h1, h2, h3⟩
      obtain rfl : j = 0 := by simpa using h2
      exact ⟨h3, by omega⟩
    · rintro ⟨h1, h2⟩
      exact ⟨0, by omega, rfl, h1⟩
  | p :: q :: ps, _ =>
    have hp := hn p (by simp)
    have hn' : ∀ p ∈ q :: ps, (37 : Int) ∉ p := fun r hr => hn r (List.mem_cons_of_mem _ hr)
    unfold lkA
    rw [joinP, List.foldl_append, List.foldl_cons, grA]
    rcases hb : bgn p t with _ | _
    · have hno : ∀ i, (stp t (p.foldl (stp t) fun i => i == 0) 37) i = false := by
        intro i
        rcases hc : stp t (p.foldl (stp t) fun i => i == 0) 37 i with _ | _
        · rfl
        · exfalso
          obtain ⟨j, _, h2⟩ := (stp_pct _ _ _).1 hc
          obtain ⟨k, _, h3, h4⟩ := (fold_piece t p _ j hp).1 h2
          obtain rfl : k = 0 := by simpa using h3
          rw [List.drop_zero, hb] at h4; cases h4
      have emp : ∀ (l : List Int) (S : Nat → Bool), (∀ i, S i = false) → ∀ i, l.foldl (stp t) S i = false := by
        intro l
        induction l with
        | nil => intro S h i; exact h i
        | cons c l ih =>
          intro S h i
          rw [List.foldl_cons]
          apply ih
          intro k
          unfold stp
          split
          · rw [List.any_eq_false]; intro x _; rw [h x]; simp
          · match k with
            | 0 => rfl
            | k + 1 => simp only; rw [h k]; rfl
      rw [emp _ _ hno]
      rfl
    · have hl := bgn_len _ _ hb
      rw [Bool.true_and]
      refine fold_rest t (q :: ps) _ p.length hn' (by simp) hl (fun i => ?_)
      rw [stp_pct]
      constructor
      · rintro ⟨k, h5, h6⟩
        obtain ⟨a, h7, h8, h9⟩ := (fold_piece t p _ k hp).1 h6
        omega
      · intro h5
        exact ⟨p.length, h5, (fold_piece t p _ _ hp).2 ⟨0, by omega, rfl, hb⟩⟩
end Go.Proofs.YtfofionocnbohaaDoor
