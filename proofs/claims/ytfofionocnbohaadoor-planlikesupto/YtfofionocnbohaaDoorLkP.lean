import Derived.Laws.RangeAny
import Derived.Lib.SplitLaws
namespace Go.Proofs.YtfofionocnbohaaDoor
set_option linter.unusedVariables false
set_option maxRecDepth 100000
/-- How many bytes the first character of a text has, by the text's first four bytes (0 where none is). -/
def wdN (a b c d : Nat) : Nat :=
  if 194 ≤ a ∧ a ≤ 223 then (if 128 ≤ b ∧ b ≤ 191 then 2 else 1)
  else if 224 ≤ a ∧ a ≤ 239 then (if 128 ≤ b ∧ b ≤ 191 ∧ (a = 224 → 160 ≤ b) ∧ (a = 237 → b ≤ 159) ∧ 128 ≤ c ∧ c ≤ 191 then 3 else 1)
  else if 240 ≤ a ∧ a ≤ 244 then (if 128 ≤ b ∧ b ≤ 191 ∧ (a = 240 → 144 ≤ b) ∧ (a = 244 → b ≤ 143) ∧ 128 ≤ c ∧ c ≤ 191 ∧ 128 ≤ d ∧ d ≤ 191 then 4 else 1)
  else 1
/-- That character as a number, below 0 where the first byte begins none. -/
def cdN (a b c d : Nat) : Int :=
  if wdN a b c d = 2 then ((a - 192) * 64 + (b - 128) : Nat)
  else if wdN a b c d = 3 then ((a - 224) * 4096 + (b - 128) * 64 + (c - 128) : Nat)
  else if wdN a b c d = 4 then ((a - 240) * 262144 + (b - 128) * 4096 + (c - 128) * 64 + (d - 128) : Nat)
  else if a < 128 then (a : Int) else -1 - (a : Int)
theorem wdN_pos (a b c d : Nat) : 1 ≤ wdN a b c d ∧ wdN a b c d ≤ 4 := by
  unfold wdN
  repeat' split
  all_goals omega
theorem valid_iff (r : Nat) : Utf8.valid (r : Int) = true ↔ (r < 55296 ∨ (57344 ≤ r ∧ r ≤ 1114111)) := by
  unfold Utf8.valid
  rw [Bool.or_eq_true, Bool.and_eq_true, Bool.and_eq_true, decide_eq_true_eq, decide_eq_true_eq, decide_eq_true_eq, decide_eq_true_eq]
  omega
theorem wdN_dec (a b c d : Nat) (ha : a < 256) (hb : b < 256) (hc : c < 256) (hd : d < 256) (r n : Nat)
    (h : (if a < 128 then (a, 1)
      else if a / 32 == 6 && b / 64 == 2 then (if (a % 32) * 64 + b % 64 ≥ 128 then ((a % 32) * 64 + b % 64, 2) else (65533, 1))
      else if a / 16 == 14 && b / 64 == 2 && c / 64 == 2 then (if (a % 16) * 4096 + (b % 64) * 64 + c % 64 ≥ 2048 && Utf8.valid (((a % 16) * 4096 + (b % 64) * 64 + c % 64 : Nat) : Int) then ((a % 16) * 4096 + (b % 64) * 64 + c % 64, 3) else (65533, 1))
      else if a / 8 == 30 && b / 64 == 2 && c / 64 == 2 && d / 64 == 2 then (if (a % 8) * 262144 + (b % 64) * 4096 + (c % 64) * 64 + d % 64 ≥ 65536 && Utf8.valid (((a % 8) * 262144 + (b % 64) * 4096 + (c % 64) * 64 + d % 64 : Nat) : Int) then ((a % 8) * 262144 + (b % 64) * 4096 + (c % 64) * 64 + d % 64, 4) else (65533, 1))
      else (65533, 1) : Nat × Nat) = (r, n)) :
    n = wdN a b c d ∧ ((r = 65533 ∧ ¬ (a = 239 ∧ b = 191 ∧ c = 189)) → cdN a b c d = -1 - (a : Int)) ∧ (¬ (r = 65533 ∧ ¬ (a = 239 ∧ b = 191 ∧ c = 189)) → cdN a b c d = (r : Int)) ∧ r ≤ 1114111 := by
  have hw : n = wdN a b c d ∧ r ≤ 1114111 ∧ (n = 2 → r = (a - 192) * 64 + (b - 128) ∧ r < 2048) ∧ (n = 3 → r = (a - 224) * 4096 + (b - 128) * 64 + (c - 128)) ∧ (n = 4 → r = (a - 240) * 262144 + (b - 128) * 4096 + (c - 128) * 64 + (d - 128) ∧ 65536 ≤ r) ∧ (n = 1 → (a < 128 → r = a) ∧ (128 ≤ a → r = 65533)) := by
    unfold wdN
    simp only [Bool.and_eq_true, beq_iff_eq, valid_iff] at h
    repeat' split at h
    all_goals (have e1 := congrArg Prod.fst h; have e2 := congrArg Prod.snd h; dsimp only at e1 e2; subst e1; subst e2; clear h)
    all_goals (try simp only [ge_iff_le, decide_eq_true_eq] at *)
    all_goals (refine ⟨?_, ?_, ?_, ?_, ?_, ?_⟩)
    all_goals (first | omega | (intro _; constructor <;> intro _ <;> first | trivial | omega) | (split <;> first | omega | (split <;> first | omega | (split <;> first | omega | (split <;> omega)))))
  obtain ⟨h1, h2, h3, h4, h5, h6⟩ := hw
  refine ⟨h1, ?_, ?_, h2⟩
  · rintro ⟨rfl, hn⟩
    have hp := wdN_pos a b c d
    unfold cdN
    rw [← h1]
    have : n = 1 ∨ n = 2 ∨ n = 3 ∨ n = 4 := by omega
    rcases this with rfl | rfl | rfl | rfl
    · have := h6 rfl; simp; omega
    · have := h3 rfl; omega
    · have := h4 rfl
      have hx : wdN a b c d = 3 := h1.symm
      unfold wdN at hx
      repeat' split at hx
      all_goals omega
    · have := h5 rfl; omega
  · intro hn
    have hp := wdN_pos a b c d
    unfold cdN
    rw [← h1]
    have : n = 1 ∨ n = 2 ∨ n = 3 ∨ n = 4 := by omega
    rcases this with rfl | rfl | rfl | rfl
    · have h7 := h6 rfl
      have : a < 128 := by
        rcases Nat.lt_or_ge a 128 with h | h
        · exact h
        · have h8 := h7.2 h
          have h9 : ¬ (¬ (a = 239 ∧ b = 191 ∧ c = 189)) := fun h => hn ⟨h8, h⟩
          have h10 : a = 239 ∧ b = 191 ∧ c = 189 := Decidable.not_not.1 h9
          obtain ⟨rfl, rfl, rfl⟩ := h10
          have hx : wdN 239 191 189 d = 1 := h1.symm
          unfold wdN at hx
          simp at hx
      simp [this, h7.1 this]
    · simp [(h3 rfl).1]
    · simp [h4 rfl]
    · simp [(h5 rfl).1]
/-- The byte at the place k of a text, 0 where none is. -/
def gB (l : List UInt8) (k : Nat) : Nat := match l[k]? with | some x => x.toNat | none => 0
theorem gB_lt (l : List UInt8) (k : Nat) : gB l k < 256 := by
  unfold gB
  split
  · rename_i x _; exact x.toNat_lt
  · omega
def wdL (l : List UInt8) : Nat := wdN (gB l 0) (gB l 1) (gB l 2) (gB l 3)
def cdL (l : List UInt8) : Int := cdN (gB l 0) (gB l 1) (gB l 2) (gB l 3)
theorem get_gB (s : ByteArray) (i k : Nat) : (s.get! (i + k)).toNat = gB (s.data.toList.drop i) k := by
  unfold gB
  rw [List.getElem?_drop]
  rcases s with ⟨⟨l⟩⟩
  show ((l.toArray)[i + k]!).toNat = _
  simp only [List.getElem!_toArray]
  rw [List.getElem!_eq_getElem?_getD]
  cases l[i + k]? <;> rfl
theorem cont_gB (s : ByteArray) (i k : Nat) : (decide (i + k < s.size) && gB (s.data.toList.drop i) k / 64 == 2) = (gB (s.data.toList.drop i) k / 64 == 2) := by
  by_cases h : i + k < s.size
  · simp [h]
  · have : gB (s.data.toList.drop i) k = 0 := by
      unfold gB
      rw [List.getElem?_drop, List.getElem?_eq_none (by rw [Array.length_toList]; exact Nat.le_of_not_lt h)]
    rw [this]; simp
/-- A range over a text reads its characters. -/
theorem decode_list (s : ByteArray) (i : Nat) : (Utf8.decode s i).2 = wdL (s.data.toList.drop i) ∧
    (((Utf8.decode s i).1 = 65533 ∧ ¬ (gB (s.data.toList.drop i) 0 = 239 ∧ gB (s.data.toList.drop i) 1 = 191 ∧ gB (s.data.toList.drop i) 2 = 189)) → cdL (s.data.toList.drop i) = -1 - (gB (s.data.toList.drop i) 0 : Int)) ∧
    (¬ ((Utf8.decode s i).1 = 65533 ∧ ¬ (gB (s.data.toList.drop i) 0 = 239 ∧ gB (s.data.toList.drop i) 1 = 191 ∧ gB (s.data.toList.drop i) 2 = 189)) → cdL (s.data.toList.drop i) = ((Utf8.decode s i).1 : Int)) ∧ (Utf8.decode s i).1 ≤ 1114111 := by
  refine wdN_dec _ _ _ _ (gB_lt _ _) (gB_lt _ _) (gB_lt _ _) (gB_lt _ _) _ _ ?_
  unfold Utf8.decode
  simp only [get_gB, cont_gB, Utf8.runeError]
theorem wdL_pos (l : List UInt8) : 1 ≤ wdL l ∧ wdL l ≤ 4 := wdN_pos _ _ _ _
theorem gB_out {l : List UInt8} {k : Nat} (h : l.length ≤ k) : gB l k = 0 := by unfold gB; rw [List.getElem?_eq_none h]
theorem wdL_le {l : List UInt8} (h : l ≠ []) : wdL l ≤ l.length := by
  have hp := wdL_pos l
  rcases Nat.lt_or_ge l.length (wdL l) with hl | hl
  · exfalso
    have hc : l.length = 0 ∨ l.length = 1 ∨ l.length = 2 ∨ l.length = 3 := by omega
    rcases hc with hc | hc | hc | hc
    · exact h (List.eq_nil_of_length_eq_zero hc)
    all_goals
      unfold wdL wdN at hl
      try rw [gB_out (k := 1) (by omega)] at hl
      try rw [gB_out (k := 2) (by omega)] at hl
      rw [gB_out (k := 3) (by omega)] at hl
      repeat' split at hl
      all_goals omega
  · exact hl
def chF : Nat → List UInt8 → List Int
  | 0, _ => []
  | n + 1, l => if l = [] then [] else cdL l :: chF n (l.drop (wdL l))
def pcF : Nat → List UInt8 → List (List UInt8)
  | 0, _ => []
  | n + 1, l => if l = [] then [] else l.take (wdL l) :: pcF n (l.drop (wdL l))
theorem drop_less {l : List UInt8} (h : l ≠ []) : (l.drop (wdL l)).length < l.length := by
  have := (wdL_pos l).1
  have := List.length_pos_iff.2 h
  rw [List.length_drop]
  omega
theorem chF_same : ∀ (n m : Nat) (l : List UInt8), l.length ≤ n → l.length ≤ m → chF n l = chF m l
  | 0, 0, l, _, _ => rfl
  | 0, m + 1, l, h, _ => by
    have : l = [] := List.eq_nil_of_length_eq_zero (by omega)
    rw [chF, chF, if_pos this]
  | n + 1, 0, l, _, h => by
    have : l = [] := List.eq_nil_of_length_eq_zero (by omega)
    rw [chF, chF, if_pos this]
  | n + 1, m + 1, l, h, k => by
    rw [chF, chF]
    by_cases hl : l = []
    · rw [if_pos hl, if_pos hl]
    · have := drop_less hl
      rw [if_neg hl, if_neg hl, chF_same n m _ (by omega) (by omega)]
theorem pcF_same : ∀ (n m : Nat) (l : List UInt8), l.length ≤ n → l.length ≤ m → pcF n l = pcF m l
  | 0, 0, l, _, _ => rfl
  | 0, m + 1, l, h, _ => by
    have : l = [] := List.eq_nil_of_length_eq_zero (by omega)
    rw [pcF, pcF, if_pos this]
  | n + 1, 0, l, _, h => by
    have : l = [] := List.eq_nil_of_length_eq_zero (by omega)
    rw [pcF, pcF, if_pos this]
  | n + 1, m + 1, l, h, k => by
    rw [pcF, pcF]
    by_cases hl : l = []
    · rw [if_pos hl, if_pos hl]
    · have := drop_less hl
      rw [if_neg hl, if_neg hl, pcF_same n m _ (by omega) (by omega)]
/-- The characters of a text, as numbers. -/
def chL (l : List UInt8) : List Int := chF l.length l
/-- The characters of a text, each its bytes. -/
def pcL (l : List UInt8) : List (List UInt8) := pcF l.length l
theorem chL_nil : chL [] = [] := rfl
theorem chL_cons {l : List UInt8} (h : l ≠ []) : chL l = cdL l :: chL (l.drop (wdL l)) := by
  have h1 := drop_less h
  unfold chL
  rw [chF_same l.length (l.length + 1) l (Nat.le_refl _) (by omega), chF, if_neg h, chF_same l.length (l.drop (wdL l)).length _ (by omega) (Nat.le_refl _)]
theorem pcL_nil : pcL [] = [] := rfl
theorem pcL_cons {l : List UInt8} (h : l ≠ []) : pcL l = l.take (wdL l) :: pcL (l.drop (wdL l)) := by
  have h1 := drop_less h
  unfold pcL
  rw [pcF_same l.length (l.length + 1) l (Nat.le_refl _) (by omega), pcF, if_neg h, pcF_same l.length (l.drop (wdL l)).length _ (by omega) (Nat.le_refl _)]
/-- What holds of the empty text, and of a text if it holds of it without its first character. -/
theorem by_chars {P : List UInt8 → Prop} (h0 : P []) (h1 : ∀ l, l ≠ [] → P (l.drop (wdL l)) → P l) : ∀ l, P l := by
  have key : ∀ (n : Nat) (l : List UInt8), l.length ≤ n → P l := by
    intro n
    induction n with
    | zero =>
      intro l hl
      rw [List.eq_nil_of_length_eq_zero (show l.length = 0 by omega)]
      exact h0
    | succ n ih =>
      intro l hl
      by_cases h : l = []
      · rw [h]; exact h0
      · have := drop_less h
        exact h1 l h (ih _ (by omega))
  exact fun l => key l.length l (Nat.le_refl _)
theorem chL_len (l : List UInt8) : (chL l).length ≤ l.length := by
  refine by_chars (P := fun l => (chL l).length ≤ l.length) (by rw [chL_nil]; simp) (fun l h ih => ?_) l
  have := drop_less h
  rw [chL_cons h, List.length_cons]
  omega
end Go.Proofs.YtfofionocnbohaaDoor
