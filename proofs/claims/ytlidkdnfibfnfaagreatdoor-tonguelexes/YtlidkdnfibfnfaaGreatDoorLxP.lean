import Derived.Lib.Case
namespace Go.Proofs.YtlidkdnfibfnfaaGreatDoor
set_option linter.unusedVariables false
/-- The byte at place i; 256 where there is none. -/
def bA (s : ByteArray) (i : Nat) : Nat := if h : i < s.size then s[i].toNat else 256
theorem bA_lt {s : ByteArray} {i : Nat} (h : bA s i ≠ 256) : i < s.size := by
  unfold bA at h
  split at h
  · assumption
  · exact absurd rfl h
theorem bA_of {s : ByteArray} {i : Nat} (h : i < s.size) : bA s i = s[i].toNat := by unfold bA; rw [dif_pos h]
theorem bA_le {s : ByteArray} {i : Nat} (h : i < s.size) : bA s i < 256 := by rw [bA_of h]; exact s[i].toNat_lt
theorem bA_out {s : ByteArray} {i : Nat} (h : s.size ≤ i) : bA s i = 256 := by unfold bA; rw [dif_neg (by omega)]
abbrev isBl (n : Nat) : Prop := n = 32 ∨ n = 9 ∨ n = 10 ∨ n = 13
abbrev isDg (n : Nat) : Prop := 48 ≤ n ∧ n ≤ 57
abbrev isLt (n : Nat) : Prop := (97 ≤ n ∧ n ≤ 122) ∨ (65 ≤ n ∧ n ≤ 90) ∨ n = 95
abbrev isWd (n : Nat) : Prop := isLt n ∨ isDg n
/-- A walk by steps: each step goes on with another state, or ends. -/
def itF {σ α : Type} (step : σ → σ ⊕ α) (z : σ → α) : Nat → σ → α
  | 0, x => z x
  | n + 1, x => match step x with
    | .inl y => itF step z n y
    | .inr a => a
def itG {σ α : Type} (m : σ → Nat) (step : σ → σ ⊕ α) (z : σ → α) (x : σ) : α := itF step z (m x + 1) x
theorem itF_more {σ α : Type} {m : σ → Nat} {step : σ → σ ⊕ α} {z : σ → α} (h : ∀ x y, step x = .inl y → m y < m x) : ∀ (n k : Nat) (x : σ), m x < n → m x < k → itF step z n x = itF step z k x
  | 0, _, x, h1, _ => absurd h1 (by omega)
  | n + 1, 0, x, _, h2 => absurd h2 (by omega)
  | n + 1, k + 1, x, h1, h2 => by
    unfold itF
    rcases e : step x with y | a
    · have := h x y e
      exact itF_more h n k y (by omega) (by omega)
    · rfl
theorem itG_eq {σ α : Type} {m : σ → Nat} {step : σ → σ ⊕ α} {z : σ → α} (h : ∀ x y, step x = .inl y → m y < m x) (x : σ) : itG m step z x = match step x with | .inl y => itG m step z y | .inr a => a := by
  unfold itG
  rw [itF]
  rcases e : step x with y | a
  · have := h x y e
    exact itF_more h _ _ y (by omega) (by omega)
  · rfl
theorem by_size {P : Nat → Prop} (N : Nat) (h : ∀ i, (∀ j, N - j < N - i → P j) → P i) (i : Nat) : P i := by
  have key : ∀ n i, N - i < n → P i := by
    intro n
    induction n with
    | zero => intro i hi; omega
    | succ n ih => intro i hi; exact h i (fun j hj => ih j (by omega))
  exact key _ i (Nat.lt_succ_self _)
/-- Where the line from i on ends. -/
def lineS (s : ByteArray) (i : Nat) : Nat ⊕ Nat := if i < s.size ∧ bA s i ≠ 10 then .inl (i + 1) else .inr i
def lineP (s : ByteArray) (i : Nat) : Nat := itG (fun i => s.size - i) (lineS s) id i
theorem lineS_lt (s : ByteArray) (x y : Nat) (h : lineS s x = .inl y) : s.size - y < s.size - x := by
  unfold lineS at h
  split at h
  · injection h with h; omega
  · cases h
theorem lineP_eq (s : ByteArray) (i : Nat) : lineP s i = if h : i < s.size ∧ bA s i ≠ 10 then lineP s (i + 1) else i := by
  unfold lineP
  rw [itG_eq (lineS_lt s)]
  unfold lineS
  by_cases h : i < s.size ∧ bA s i ≠ 10
  · rw [if_pos h, dif_pos h]
  · rw [if_neg h, dif_neg h]
theorem lineP_ge (s : ByteArray) (i : Nat) : i ≤ lineP s i := by
  refine by_size (P := fun i => i ≤ lineP s i) s.size (fun i ih => ?_) i
  rw [lineP_eq]
  split
  · have := ih (i + 1) (by omega); omega
  · omega
/-- Where the remark's end stands, from j on. -/
def remS (s : ByteArray) (j : Nat) : Nat ⊕ Option Nat := if j + 1 < s.size then (if bA s j = 42 ∧ bA s (j + 1) = 47 then .inr (some j) else .inl (j + 1)) else .inr none
def remP (s : ByteArray) (j : Nat) : Option Nat := itG (fun i => s.size - i) (remS s) (fun _ => none) j
theorem remS_lt (s : ByteArray) (x y : Nat) (h : remS s x = .inl y) : s.size - y < s.size - x := by
  unfold remS at h
  split at h
  · split at h
    · cases h
    · injection h with h; omega
  · cases h
theorem remP_eq (s : ByteArray) (j : Nat) : remP s j = if h : j + 1 < s.size then (if bA s j = 42 ∧ bA s (j + 1) = 47 then some j else remP s (j + 1)) else none := by
  unfold remP
  rw [itG_eq (remS_lt s)]
  unfold remS
  by_cases h : j + 1 < s.size
  · rw [if_pos h, dif_pos h]
    by_cases h2 : bA s j = 42 ∧ bA s (j + 1) = 47
    · rw [if_pos h2, if_pos h2]
    · rw [if_neg h2, if_neg h2]
  · rw [if_neg h, dif_neg h]
theorem remP_ge {s : ByteArray} {j k : Nat} (h : remP s j = some k) : j ≤ k ∧ k + 1 < s.size := by
  revert h
  refine by_size (P := fun j => remP s j = some k → j ≤ k ∧ k + 1 < s.size) s.size (fun j ih h => ?_) j
  rw [remP_eq] at h
  split at h
  · split at h
    · injection h with h
      omega
    · have := ih (j + 1) (by omega) h
      omega
  · cases h
/-- Where the blanks and remarks from i on end; or the place of one that does not end. -/
def gapS (s : ByteArray) (i : Nat) : Nat ⊕ Except Nat Nat :=
  if i < s.size then
    if isBl (bA s i) then .inl (i + 1)
    else if bA s i = 45 ∧ bA s (i + 1) = 45 then .inl (lineP s (i + 1))
    else if bA s i = 47 ∧ bA s (i + 1) = 42 then
      match remP s (i + 2) with
      | none => .inr (.error i)
      | some j => .inl (j + 2)
    else .inr (.ok i)
  else .inr (.ok i)
def gapP (s : ByteArray) (i : Nat) : Except Nat Nat := itG (fun i => s.size - i) (gapS s) Except.ok i
theorem gapS_lt (s : ByteArray) (x y : Nat) (h : gapS s x = .inl y) : s.size - y < s.size - x := by
  unfold gapS at h
  split at h
  · split at h
    · injection h with h; omega
    · split at h
      · injection h with h
        have := lineP_ge s (x + 1); omega
      · split at h
        · rcases e : remP s (x + 2) with _ | j
          · rw [e] at h; cases h
          · rw [e] at h
            injection h with h
            have := remP_ge e; omega
        · cases h
  · cases h
theorem gapP_eq (s : ByteArray) (i : Nat) : gapP s i =
    if h : i < s.size then
      if isBl (bA s i) then gapP s (i + 1)
      else if h2 : bA s i = 45 ∧ bA s (i + 1) = 45 then gapP s (lineP s (i + 1))
      else if bA s i = 47 ∧ bA s (i + 1) = 42 then
        match remP s (i + 2) with
        | none => .error i
        | some j => gapP s (j + 2)
      else .ok i
    else .ok i := by
  unfold gapP
  rw [itG_eq (gapS_lt s)]
  unfold gapS
  by_cases h : i < s.size
  · rw [if_pos h, dif_pos h]
    by_cases h1 : isBl (bA s i)
    · rw [if_pos h1, if_pos h1]
    · rw [if_neg h1, if_neg h1]
      by_cases h2 : bA s i = 45 ∧ bA s (i + 1) = 45
      · rw [if_pos h2, dif_pos h2]
      · rw [if_neg h2, dif_neg h2]
        by_cases h3 : bA s i = 47 ∧ bA s (i + 1) = 42
        · rw [if_pos h3, if_pos h3]
          cases remP s (i + 2) <;> rfl
        · rw [if_neg h3, if_neg h3]
  · rw [if_neg h, dif_neg h]
/-- A token. -/
structure TK where
  kind : Int
  text : ByteArray
  num : Int
  at_ : Int
/-- Where the word's bytes from i on end. -/
def wordS (s : ByteArray) (i : Nat) : Nat ⊕ Nat := if i < s.size ∧ isWd (bA s i) then .inl (i + 1) else .inr i
def wordE (s : ByteArray) (i : Nat) : Nat := itG (fun i => s.size - i) (wordS s) id i
theorem wordS_lt (s : ByteArray) (x y : Nat) (h : wordS s x = .inl y) : s.size - y < s.size - x := by
  unfold wordS at h
  split at h
  · injection h with h; omega
  · cases h
theorem wordE_eq (s : ByteArray) (i : Nat) : wordE s i = if h : i < s.size ∧ isWd (bA s i) then wordE s (i + 1) else i := by
  unfold wordE
  rw [itG_eq (wordS_lt s)]
  unfold wordS
  by_cases h : i < s.size ∧ isWd (bA s i)
  · rw [if_pos h, dif_pos h]
  · rw [if_neg h, dif_neg h]
theorem wordE_ge (s : ByteArray) (i : Nat) : i ≤ wordE s i := by
  refine by_size (P := fun i => i ≤ wordE s i) s.size (fun i ih => ?_) i
  rw [wordE_eq]
  split
  · have := ih (i + 1) (by omega); omega
  · omega
theorem wordE_le (s : ByteArray) (i : Nat) (h : i ≤ s.size) : wordE s i ≤ s.size := by
  revert h
  refine by_size (P := fun i => i ≤ s.size → wordE s i ≤ s.size) s.size (fun i ih h => ?_) i
  rw [wordE_eq]
  split
  · exact ih (i + 1) (by omega) (by omega)
  · exact h
def upP (w : ByteArray) : ByteArray := ⟨w.data.map Lib.upperB⟩
def loP (w : ByteArray) : ByteArray := ⟨w.data.map Lib.lowerB⟩
/-- The number that the digits from i on spell, above one that was spelt; and where they end; none where it is too great. -/
def numS (s : ByteArray) (x : Nat × Nat) : (Nat × Nat) ⊕ Option (Nat × Nat) :=
  if x.1 < s.size ∧ isDg (bA s x.1) then
    if x.2 * 10 + (bA s x.1 - 48) ≤ 9223372036854775807 then .inl (x.1 + 1, x.2 * 10 + (bA s x.1 - 48)) else .inr none
  else .inr (some (x.2, x.1))
def numP (s : ByteArray) (i : Nat) (acc : Nat) : Option (Nat × Nat) := itG (fun x => s.size - x.1) (numS s) (fun _ => none) (i, acc)
theorem numS_lt (s : ByteArray) (x y : Nat × Nat) (h : numS s x = .inl y) : s.size - y.1 < s.size - x.1 := by
  unfold numS at h
  split at h
  · split at h
    · injection h with h
      subst h
      show s.size - (x.1 + 1) < _
      omega
    · cases h
  · cases h
theorem numP_eq (s : ByteArray) (i : Nat) (acc : Nat) : numP s i acc =
    if h : i < s.size ∧ isDg (bA s i) then
      if acc * 10 + (bA s i - 48) ≤ 9223372036854775807 then numP s (i + 1) (acc * 10 + (bA s i - 48)) else none
    else some (acc, i) := by
  unfold numP
  rw [itG_eq (numS_lt s)]
  unfold numS
  dsimp only
  by_cases h : i < s.size ∧ isDg (bA s i)
  · rw [if_pos h, dif_pos h]
    by_cases h2 : acc * 10 + (bA s i - 48) ≤ 9223372036854775807
    · rw [if_pos h2, if_pos h2]
    · rw [if_neg h2, if_neg h2]
  · rw [if_neg h, dif_neg h]
/-- What stands from j on to the closing quote q, behind what was read; and the place behind it. -/
def quoS (s : ByteArray) (q : Nat) (x : Nat × List UInt8) : (Nat × List UInt8) ⊕ Option (List UInt8 × Nat) :=
  if h : x.1 < s.size then
    if bA s x.1 ≠ q then .inl (x.1 + 1, x.2 ++ [s[x.1]])
    else if bA s (x.1 + 1) = q then .inl (x.1 + 2, x.2 ++ [s[x.1]])
    else .inr (some (x.2, x.1 + 1))
  else .inr none
def quoP (s : ByteArray) (q : Nat) (j : Nat) (acc : List UInt8) : Option (List UInt8 × Nat) := itG (fun x => s.size - x.1) (quoS s q) (fun _ => none) (j, acc)
theorem quoS_lt (s : ByteArray) (q : Nat) (x y : Nat × List UInt8) (h : quoS s q x = .inl y) : s.size - y.1 < s.size - x.1 := by
  unfold quoS at h
  split at h
  · split at h
    · injection h with h
      subst h
      show s.size - (x.1 + 1) < _
      omega
    · split at h
      · injection h with h
        subst h
        show s.size - (x.1 + 2) < _
        omega
      · cases h
  · cases h
theorem quoP_eq (s : ByteArray) (q : Nat) (j : Nat) (acc : List UInt8) : quoP s q j acc =
    if h : j < s.size then
      if bA s j ≠ q then quoP s q (j + 1) (acc ++ [s[j]])
      else if bA s (j + 1) = q then quoP s q (j + 2) (acc ++ [s[j]])
      else some (acc, j + 1)
    else none := by
  unfold quoP
  rw [itG_eq (quoS_lt s q)]
  unfold quoS
  dsimp only
  by_cases h : j < s.size
  · rw [dif_pos h, dif_pos h]
    by_cases h2 : bA s j ≠ q
    · rw [if_pos h2, if_pos h2]
    · rw [if_neg h2, if_neg h2]
      by_cases h3 : bA s (j + 1) = q
      · rw [if_pos h3, if_pos h3]
      · rw [if_neg h3, if_neg h3]
  · rw [dif_neg h, dif_neg h]
/-- Where the next quote stands, from j on. -/
def apoS (s : ByteArray) (j : Nat) : Nat ⊕ Nat := if j < s.size ∧ bA s j ≠ 39 then .inl (j + 1) else .inr j
def apoP (s : ByteArray) (j : Nat) : Nat := itG (fun i => s.size - i) (apoS s) id j
theorem apoS_lt (s : ByteArray) (x y : Nat) (h : apoS s x = .inl y) : s.size - y < s.size - x := by
  unfold apoS at h
  split at h
  · injection h with h; omega
  · cases h
theorem apoP_eq (s : ByteArray) (j : Nat) : apoP s j = if h : j < s.size ∧ bA s j ≠ 39 then apoP s (j + 1) else j := by
  unfold apoP
  rw [itG_eq (apoS_lt s)]
  unfold apoS
  by_cases h : j < s.size ∧ bA s j ≠ 39
  · rw [if_pos h, dif_pos h]
  · rw [if_neg h, dif_neg h]
def hexV (n : Nat) : Int := if isDg n then (n : Int) - 48 else if 97 ≤ n ∧ n ≤ 102 then (n : Int) - 87 else if 65 ≤ n ∧ n ≤ 70 then (n : Int) - 55 else -1
/-- The bytes that the hex digits from k to e stand for, behind what was read. -/
def hexS (s : ByteArray) (e : Nat) (x : Nat × List UInt8) : (Nat × List UInt8) ⊕ Option (List UInt8) :=
  if x.1 + 1 < e then
    if hexV (bA s x.1) < 0 ∨ hexV (bA s (x.1 + 1)) < 0 then .inr none
    else .inl (x.1 + 2, x.2 ++ [UInt8.ofNat (16 * (hexV (bA s x.1)).toNat + (hexV (bA s (x.1 + 1))).toNat)])
  else .inr (some x.2)
def hexP (s : ByteArray) (e : Nat) (k : Nat) (acc : List UInt8) : Option (List UInt8) := itG (fun x => e - x.1) (hexS s e) (fun _ => none) (k, acc)
theorem hexS_lt (s : ByteArray) (e : Nat) (x y : Nat × List UInt8) (h : hexS s e x = .inl y) : e - y.1 < e - x.1 := by
  unfold hexS at h
  split at h
  · split at h
    · cases h
    · injection h with h
      subst h
      show e - (x.1 + 2) < _
      omega
  · cases h
theorem hexP_eq (s : ByteArray) (e : Nat) (k : Nat) (acc : List UInt8) : hexP s e k acc =
    if h : k + 1 < e then
      if hexV (bA s k) < 0 ∨ hexV (bA s (k + 1)) < 0 then none
      else hexP s e (k + 2) (acc ++ [UInt8.ofNat (16 * (hexV (bA s k)).toNat + (hexV (bA s (k + 1))).toNat)])
    else some acc := by
  unfold hexP
  rw [itG_eq (hexS_lt s e)]
  unfold hexS
  dsimp only
  by_cases h : k + 1 < e
  · rw [if_pos h, dif_pos h]
    by_cases h2 : hexV (bA s k) < 0 ∨ hexV (bA s (k + 1)) < 0
    · rw [if_pos h2, if_pos h2]
    · rw [if_neg h2, if_neg h2]
  · rw [if_neg h, dif_neg h]
def kws : List (List UInt8) := [[65, 78, 68], [65, 83], [65, 83, 67], [66, 69, 71, 73, 78], [66, 69, 84, 87, 69, 69, 78], [66, 79, 79, 76], [66, 89], [67, 65, 83, 69], [67, 72, 69, 67, 75], [67, 72, 69, 67, 75, 80, 79, 73, 78, 84], [67, 79, 77, 77, 73, 84], [67, 79, 77, 77, 73, 84, 84, 69, 68], [67, 79, 85, 78, 84], [67, 82, 65, 83, 72], [67, 82, 69, 65, 84, 69], [67, 85, 84], [68, 69, 76, 69, 84, 69], [68, 69, 83, 67], [68, 82, 65, 73, 78], [68, 82, 79, 80], [69, 76, 83, 69], [69, 78, 68], [70, 65, 76, 83, 69], [70, 76, 85, 83, 72], [70, 82, 79, 77], [73, 78], [73, 78, 83, 69, 82, 84], [73, 78, 84], [73, 78, 84, 79], [73, 83], [75, 69, 89], [76, 73, 75, 69], [76, 73, 77, 73, 84], [77, 65, 88], [77, 69, 82, 71, 69], [77, 73, 78], [78, 79, 84], [78, 85, 76, 76], [79, 82], [79, 82, 68, 69, 82], [80, 76, 65, 89], [80, 82, 73, 77, 65, 82, 89], [82, 69, 65, 68], [82, 69, 80, 69, 65, 84, 65, 66, 76, 69], [82, 69, 83, 84, 65, 82, 84], [82, 79, 76, 76, 66, 65, 67, 75], [83, 69, 76, 69, 67, 84], [83, 69, 82, 73, 65, 76, 73, 90, 65, 66, 76, 69], [83, 69, 84], [83, 78, 65, 80, 83, 72, 79, 84], [83, 85, 77], [83, 89, 78, 67], [84, 65, 66, 76, 69], [84, 69, 88, 84], [84, 72, 69, 78], [84, 73, 67, 75], [84, 82, 85, 69], [85, 80, 68, 65, 84, 69], [86, 65, 76, 85, 69, 83], [87, 72, 69, 78], [87, 72, 69, 82, 69]]
def isKw (w : ByteArray) : Bool := kws.contains w.data.toList
/-- The word at i. -/
def wordP (s : ByteArray) (i : Nat) : Except Int (TK × Nat) :=
  if isKw (upP (s.extract i (wordE s i))) then .ok (⟨2, upP (s.extract i (wordE s i)), 0, i⟩, wordE s i)
  else if 32 < wordE s i - i then .error 153
  else .ok (⟨1, loP (s.extract i (wordE s i)), 0, i⟩, wordE s i)
def intP (s : ByteArray) (i : Nat) : Except Int (TK × Nat) :=
  match numP s i 0 with
  | none => .error 152
  | some (v, j) => if isLt (bA s j) then .error 152 else .ok (⟨3, ⟨#[]⟩, v, i⟩, j)
def hexT (s : ByteArray) (i : Nat) : Except Int (TK × Nat) :=
  if s.size ≤ apoP s (i + 2) then .error 151
  else if (apoP s (i + 2) - (i + 2)) % 2 ≠ 0 then .error 154
  else match hexP s (apoP s (i + 2)) (i + 2) [] with
    | none => .error 154
    | some l => if 4096 < l.length then .error 4 else .ok (⟨4, ⟨l.toArray⟩, 0, i⟩, apoP s (i + 2) + 1)
def signP (s : ByteArray) (i : Nat) : Except Int (TK × Nat) :=
  let a := bA s i
  let b := bA s (i + 1)
  if (a = 60 ∧ (b = 62 ∨ b = 61)) ∨ (a = 62 ∧ b = 61) ∨ (a = 124 ∧ b = 124) then .ok (⟨5, s.extract i (i + 2), 0, i⟩, i + 2)
  else if a = 33 ∧ b = 61 then .ok (⟨5, ⟨#[60, 62]⟩, 0, i⟩, i + 2)
  else if a = 40 ∨ a = 41 ∨ a = 44 ∨ a = 59 ∨ a = 42 ∨ a = 43 ∨ a = 45 ∨ a = 47 ∨ a = 37 ∨ a = 61 ∨ a = 60 ∨ a = 62 ∨ a = 64 then .ok (⟨5, s.extract i (i + 1), 0, i⟩, i + 1)
  else .error 150
/-- The token at i, and the place behind it; or what is wrong. -/
def tokP (s : ByteArray) (i : Nat) : Except Int (TK × Nat) :=
  let a := bA s i
  if (a = 120 ∨ a = 88) ∧ bA s (i + 1) = 39 then hexT s i
  else if isLt a then wordP s i
  else if isDg a then intP s i
  else if a = 34 then
    match quoP s 34 (i + 1) [] with
    | none => .error 151
    | some (l, j) => if l.length < 1 ∨ 32 < l.length then .error 153 else .ok (⟨1, ⟨l.toArray⟩, 0, i⟩, j)
  else if a = 39 then
    match quoP s 39 (i + 1) [] with
    | none => .error 151
    | some (l, j) => if 4096 < l.length then .error 4 else .ok (⟨4, ⟨l.toArray⟩, 0, i⟩, j)
  else signP s i
/-- The tokens from i on, behind those that were read; each step is counted. -/
def lexP (s : ByteArray) : Nat → Nat → List TK → Except (Int × Nat) (List TK)
  | 0, _, l => .ok l
  | n + 1, i, l => match gapP s i with
    | .error p => .error (151, p)
    | .ok j => if s.size ≤ j then .ok (l ++ [⟨0, ⟨#[]⟩, 0, s.size⟩]) else match tokP s j with
      | .error e => .error (e, j)
      | .ok (t, k) => lexP s n k (l ++ [t])
end Go.Proofs.YtlidkdnfibfnfaaGreatDoor
